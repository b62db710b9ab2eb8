package lawtext

import "ablaut/api"

// sign stands for numbers of repetitions.
type sign struct {
	text        string
	least, most int
}

// The signs of the repetitions that are not written with their numbers.
var signs = [...]sign{
	{"*", 0, -1},
	{"+", 1, -1},
	{"?", 0, 1},
}

// The arrows of the modes. No mode is 0.
var arrows = [...]string{
	api.ModeAll:   " > ",
	api.ModeRight: " >> ",
	api.ModeLeft:  " << ",
}

// Where a law has no conditions, or no results, stands this.
const nothing = "0"

// An alternative without elements, which matches nothing.
const never = "!()"
