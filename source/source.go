// Package source reads the text of a program (P2) or finds its wrong line (P3).
package source

import "leaks/api"

// The kinds of statements.
const (
	Assign = 0
	Load   = 1
	Store  = 2
	Out    = 3
	If     = 4
	While  = 5
)

// MaxSlot bounds the slots: the inputs in their order, then the variables in theirs.
const MaxSlot = api.MaxIn + api.MaxVar

// Atom: if Named, what slot Value holds, else the number Value.
type Atom struct {
	Named bool
	Value int
}

// Statement: what one step carries out. Names are gone, so that nothing behind the reading can hang on them.
type Statement struct {
	Kind  int
	Op    int  // of Assign: an operation of package api
	Slot  int  // of Assign and Load: what is written
	Array int  // of Load and Store
	A     Atom // of Assign the left side; of Load and Store the index; of Out, If and While all there is
	B     Atom // of Assign the right side (not of Move); of Store what is written
	Next  int  // the statement behind; of If and While: if A is not 0
	Else  int  // of If and While: the statement behind if A is 0
}

// Program: Next and Else of its statements are places in Code; len(Code) is where nothing is left to do.
type Program struct {
	Secret []bool // of each input
	Vars   int
	Cells  []int // of each array
	Code   []Statement
}

// Read gives the program that a text is, and 0; or an empty one, and the wrong line.
func Read(s string) (Program, int) {
	if len(s) > api.MaxText {
		return Program{}, 1
	}
	var r reader
	ended := 0
	start := 0
	for i := 0; i < len(s); i++ {
		if s[i] != '\n' {
			continue
		}
		words := split(s[start:i])
		if !r.take(words) {
			return Program{}, ended + 1
		}
		ended++
		start = i + 1
	}
	if start < len(s) || r.depth > 0 {
		return Program{}, ended + 1
	}
	r.program.Code = r.link()
	return r.program, 0
}
