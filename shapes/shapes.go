// Package shapes tells how trees are formed, to the layers that are given some: as parse tells them, and as typeck does.
package shapes

import "ferrule/api"

// MostTrees is how many trees a program of parse can have: each has a byte of the text that is no other's.
// Trees that share their memory can be more than could ever be gone over.
const MostTrees = api.MaxText

// many is the most kids of what may have any number of them.
const many = -1

// What the Num of a tree may be that parse tells.
const (
	NoNum   = iota
	FlagNum // 0 or 1
	AnyNum
)

// Shape is what the trees of a kind have as parse tells them: from least to most kids, and which fields have a meaning.
type Shape struct {
	least, most int
	Num         int
	Text, Types bool
}

// shapes holds the shape of each kind of tree, by its number.
var shapes = [...]Shape{
	api.ExInt:     {0, 0, AnyNum, true, false},
	api.ExBool:    {0, 0, FlagNum, false, false},
	api.ExUnit:    {0, 0, NoNum, false, false},
	api.ExVar:     {0, 0, NoNum, true, false},
	api.ExNeg:     {1, 1, NoNum, false, false},
	api.ExNot:     {1, 1, NoNum, false, false},
	api.ExDeref:   {1, 1, NoNum, false, false},
	api.ExBorrow:  {1, 1, FlagNum, false, false},
	api.ExBin:     {2, 2, NoNum, true, false},
	api.ExCast:    {1, 1, NoNum, false, true},
	api.ExCall:    {0, many, NoNum, true, false},
	api.ExField:   {1, 1, NoNum, true, false},
	api.ExIndex:   {2, 2, NoNum, false, false},
	api.ExStruct:  {0, many, NoNum, true, false},
	api.ExInit:    {1, 1, NoNum, true, false},
	api.ExVariant: {0, many, NoNum, true, false},
	api.ExArray:   {0, many, NoNum, false, false},
	api.ExRepeat:  {1, 1, AnyNum, false, false},
	api.ExBlock:   {0, many, FlagNum, false, false},
	api.ExIf:      {2, 3, NoNum, false, false},
	api.ExMatch:   {1, many, NoNum, false, false},
	api.ExArm:     {2, 2, NoNum, false, false},
	api.PaInt:     {0, 0, AnyNum, false, false},
	api.PaBool:    {0, 0, FlagNum, false, false},
	api.PaAny:     {0, 0, NoNum, false, false},
	api.PaVariant: {0, many, NoNum, true, false},
	api.PaBind:    {0, 0, NoNum, true, false},
	api.ExWhile:   {2, 2, NoNum, false, false},
	api.ExLoop:    {1, 1, NoNum, false, false},
	api.ExBreak:   {0, 0, NoNum, false, false},
	api.ExNext:    {0, 0, NoNum, false, false},
	api.ExReturn:  {0, 1, NoNum, false, false},
	api.ExLet:     {1, 1, FlagNum, true, true},
	api.ExAssign:  {2, 2, NoNum, false, false},
	api.ExStmt:    {1, 1, NoNum, false, false},
}

// Of tells the shape of a kind of tree; false: there is no such kind.
func Of(kind int) (Shape, bool) {
	if kind < api.ExInt || kind >= len(shapes) {
		return Shape{}, false
	}
	return shapes[kind], true
}

// Takes tells whether a tree of a shape may have so many kids.
func (s Shape) Takes(kids int) bool {
	return kids >= s.least && (s.most == many || kids <= s.most)
}
