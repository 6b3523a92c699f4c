// Package diagram says what the steps of all runs of a program tell, bit by bit, as decision diagrams over the bits of the inputs.
package diagram

import (
	"leaks/api"
	"leaks/machine"
	"leaks/source"
)

// The two nodes that decide nothing.
const (
	False = 0
	True  = 1

	undecided = 2 // how many these are
)

// Node: what node Low says, if bit Bit of the inputs is 0, else what node High says. The bits are numbered input by input, the lowest of each first.
type Node struct {
	Bit, Low, High int
	Secret         bool // what it says hangs on a bit of a secret input
}

// Diagram: Nodes begins with False and True, and each node stands behind its Low and its High. Told has the node of each bit that is told, step by step, the lowest first.
// No node has the same Low and High, and no two nodes say the same: so a bit that hangs on public inputs alone has a node that is not secret, however it was computed.
type Diagram struct {
	Nodes []Node
	Told  []int
}

// Decisions: how many nodes there are beside False and True.
func (d Diagram) Decisions() int {
	return len(d.Nodes) - undecided
}

// Of gives the diagram of the first k steps. It is false, and there is none, if there would be more than most decisions (0: they may be any number).
func Of(p source.Program, k, most int) (Diagram, bool) {
	bits := order(len(p.Secret))
	runs := tellAll(p, bits, k)
	m := begin(p, bits, len(runs))
	var told []int
	for step := 0; step < k; step++ {
		for bit := 0; bit < machine.Bits; bit++ {
			m.lay(runs, step, bit)
			node := m.fold()
			told = append(told, node)
			if most != 0 && len(m.nodes)-undecided > most {
				return Diagram{}, false
			}
		}
	}
	return Diagram{Nodes: m.nodes, Told: told}, true
}

// order gives the bits in the order of the levels, from the lowest level up. Bits of the same place stand together, for sums and comparisons have far smaller diagrams that way.
func order(inputs int) []int {
	var bits []int
	for place := 0; place < api.Bits; place++ {
		for input := 0; input < inputs; input++ {
			bits = append(bits, input*api.Bits+place)
		}
	}
	return bits
}

// tellAll gives what each run tells, in the order of their numbers.
func tellAll(p source.Program, bits []int, k int) [][]int {
	var runs [][]int
	for n := 0; n < 1<<len(bits); n++ {
		in := inputs(n, bits, len(p.Secret))
		told := machine.Tell(p, in, k)
		runs = append(runs, told)
	}
	return runs
}

// inputs gives the inputs of run number n: their bits are the digits of n, the lowest digit that of the lowest level.
func inputs(n int, bits []int, count int) []int {
	in := make([]int, count)
	for level, bit := range bits {
		digit := n >> level & 1
		in[bit/api.Bits] |= digit << (bit % api.Bits)
	}
	return in
}
