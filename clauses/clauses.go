// Package clauses writes the formula: what two runs tell, whose public inputs are the same, and that they tell differently (P8).
package clauses

import (
	"leaks/api"
	"leaks/diagram"
	"leaks/source"
)

// Formula: Text has the clauses, a line each, over the variables 1 to Vars.
type Formula struct {
	Vars int
	Text string
}

// run: the variables that speak of one run.
type run struct {
	bits  []int // of each bit of the inputs
	nodes []int // of each node of the diagram
	told  []int // of each bit that is told
}

// Write gives the formula of a program whose first steps tell what the diagram says.
func Write(p source.Program, d diagram.Diagram) Formula {
	var w writer
	var first, second run
	first.bits = w.fresh(len(p.Secret) * api.Bits)
	for i, secret := range p.Secret {
		word := first.bits[i*api.Bits : (i+1)*api.Bits]
		if secret {
			word = w.fresh(api.Bits)
		}
		second.bits = append(second.bits, word...)
	}
	first.told = w.fresh(len(d.Told))
	second.told = w.fresh(len(d.Told))
	differences := w.fresh(len(d.Told))
	w.writeNodes(d, &first, &second)
	w.writeTold(d, first)
	w.writeTold(d, second)
	w.writeDifferences(first.told, second.told, differences)
	return Formula{Vars: w.vars, Text: string(w.text)}
}

// writeNodes says of each run what the diagram's nodes say. A node that hangs on public inputs alone says the same of both, and has one variable.
func (w *writer) writeNodes(d diagram.Diagram, first, second *run) {
	first.nodes = make([]int, len(d.Nodes))
	second.nodes = make([]int, len(d.Nodes))
	for i, node := range d.Nodes {
		if i == diagram.False || i == diagram.True {
			continue
		}
		w.vars++
		first.nodes[i] = w.vars
		w.writeNode(w.vars, node, *first)
		if node.Secret {
			w.vars++
			w.writeNode(w.vars, node, *second)
		}
		second.nodes[i] = w.vars
	}
}

// writeNode says that a variable is what a node says of a run.
func (w *writer) writeNode(variable int, node diagram.Node, r run) {
	bit := r.bits[node.Bit]
	w.same(variable, node.Low, r, bit)
	w.same(variable, node.High, r, -bit)
}

func (w *writer) writeTold(d diagram.Diagram, r run) {
	for i, node := range d.Told {
		w.same(r.told[i], node, r, 0)
	}
}

// same says that a variable is what a node says, or else the literal unless is true (0: there is none).
func (w *writer) same(variable, node int, r run, unless int) {
	switch node {
	case diagram.False:
		w.clause(-variable, unless, 0)
	case diagram.True:
		w.clause(variable, unless, 0)
	default:
		w.clause(-variable, unless, r.nodes[node])
		w.clause(variable, unless, -r.nodes[node])
	}
}

// writeDifferences writes the clauses that P8 has at the end, literal by literal.
func (w *writer) writeDifferences(first, second, differences []int) {
	for i, d := range differences {
		a := first[i]
		b := second[i]
		w.clause(-d, a, b)
		w.clause(-d, -a, -b)
		w.clause(d, -a, b)
		w.clause(d, a, -b)
	}
	for _, d := range differences {
		w.literal(d)
	}
	w.end()
}
