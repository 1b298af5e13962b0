package lower

import "ferrule/api"

// Share lets tests share registers of functions that have few.
func Share(f *api.LowFunc) { share(f) }
