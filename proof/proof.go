// Package proof writes the proof that the formula has no solution, if no bit that is told hangs on a secret (P9).
package proof

import (
	"leaks/clauses"
	"leaks/diagram"
)

// Proof: Text has the lines. Each of them ends at a clause all of whose literals are false: a conflict.
type Proof struct {
	Lines int
	Text  string
}

// Write gives the proof: it says of each bit that is told that the two runs do not differ in it, and so of all. It is false, and there is none, if there would be more than most lines (0: they may be any number).
// Each bit must have a node that is not secret: then the formula has one variable of that node for both runs.
func Write(f clauses.Formula, most int) (Proof, bool) {
	w := writer{next: f.Clauses + 1}
	var hints []int
	for _, b := range f.Bits {
		number := w.equal(b)
		hints = append(hints, number)
	}
	hints = append(hints, f.Clauses)
	w.line(nil, hints)
	if most != 0 && w.lines > most {
		return Proof{}, false
	}
	return Proof{Lines: w.lines, Text: string(w.text)}, true
}

// equal says that a bit is the same in both runs, and gives the number of the line that does.
func (w *writer) equal(b clauses.Bit) int {
	switch b.Node {
	case diagram.False:
		return w.line([]int{-b.Difference.Variable}, []int{b.First.Clause, b.Second.Clause, b.Difference.Clause})
	case diagram.True:
		return w.line([]int{-b.Difference.Variable}, []int{b.First.Clause, b.Second.Clause, b.Difference.Clause + 1})
	default:
		return w.equalByNode(b)
	}
}

// equalByNode: both bits are what the node's variable is. Of each bit the first clause says that if it is 1, so is the node, and the second that if it is 0, so is the node.
func (w *writer) equalByNode(b clauses.Bit) int {
	differ := b.Difference.Variable
	// if they differ and the first is 0, the second is 1; so is the node, and so is the first
	one := w.line([]int{-differ, b.First.Variable}, []int{b.Difference.Clause, b.Second.Clause, b.First.Clause + 1})
	// so the first is 1, if they differ; so is the node, and so is the second: they do not differ
	return w.line([]int{-differ}, []int{one, b.First.Clause, b.Second.Clause + 1, b.Difference.Clause + 1})
}
