// Package clauses writes the formula: what two runs tell, whose public inputs are the same, and that they tell differently (P8).
package clauses

import (
	"leaks/api"
	"leaks/diagram"
	"leaks/source"
)

// Formula: Text has the clauses, a line each, over the variables 1 to Vars; Bits has what is said of each bit that is told.
type Formula struct {
	Vars    int
	Clauses int // how many there are
	Text    string
	Bits    []Bit
}

// Bit: of a bit that is told, its node of the diagram, what it is in the first run and in the second, and whether these differ.
type Bit struct {
	Node                      int
	First, Second, Difference Said
}

// Said: a variable, and the number of the first of the clauses that say what it is. The clauses are numbered from 1.
type Said struct {
	Variable, Clause int
}

// run: the variables that speak of one run.
type run struct {
	bits  []int // of each bit of the inputs
	nodes []int // of each node of the diagram
	told  []int // of each bit that is told
}

// Write gives the formula of a program whose first steps tell what the diagram says.
func Write(p source.Program, d diagram.Diagram) Formula {
	var w writer
	var first, second run
	first.bits = w.fresh(len(p.Secret) * api.Bits)
	for i, secret := range p.Secret {
		word := first.bits[i*api.Bits : (i+1)*api.Bits]
		if secret {
			word = w.fresh(api.Bits)
		}
		second.bits = append(second.bits, word...)
	}
	first.told = w.fresh(len(d.Told))
	second.told = w.fresh(len(d.Told))
	differences := w.fresh(len(d.Told))
	w.writeNodes(d, &first, &second)
	bits := make([]Bit, len(d.Told))
	for i, node := range d.Told {
		bits[i].Node = node
		bits[i].First = w.writeTold(first.told[i], node, first)
	}
	for i, node := range d.Told {
		bits[i].Second = w.writeTold(second.told[i], node, second)
	}
	for i, variable := range differences {
		bits[i].Difference = w.writeDifference(variable, first.told[i], second.told[i])
	}
	w.writeAny(differences)
	return Formula{Vars: w.vars, Clauses: w.count, Text: string(w.text), Bits: bits}
}

// writeNodes says of each run what the diagram's nodes say. A node that hangs on public inputs alone says the same of both, and has one variable.
func (w *writer) writeNodes(d diagram.Diagram, first, second *run) {
	first.nodes = make([]int, len(d.Nodes))
	second.nodes = make([]int, len(d.Nodes))
	for i, node := range d.Nodes {
		if i == diagram.False || i == diagram.True {
			continue
		}
		w.vars++
		first.nodes[i] = w.vars
		w.writeNode(w.vars, node, *first)
		if node.Secret {
			w.vars++
			w.writeNode(w.vars, node, *second)
		}
		second.nodes[i] = w.vars
	}
}

// writeNode says that a variable is what a node says of a run.
func (w *writer) writeNode(variable int, node diagram.Node, r run) {
	bit := r.bits[node.Bit]
	w.same(variable, node.Low, r, bit)
	w.same(variable, node.High, r, -bit)
}

// writeTold says that a bit is told that is what a node says of a run.
func (w *writer) writeTold(variable, node int, r run) Said {
	said := Said{Variable: variable, Clause: w.count + 1}
	w.same(variable, node, r, 0)
	return said
}

// same says that a variable is what a node says, or else the literal unless is true (0: there is none).
func (w *writer) same(variable, node int, r run, unless int) {
	switch node {
	case diagram.False:
		w.clause(-variable, unless, 0)
	case diagram.True:
		w.clause(variable, unless, 0)
	default:
		w.clause(-variable, unless, r.nodes[node])
		w.clause(variable, unless, -r.nodes[node])
	}
}

// writeDifference says that d is whether a and b differ, literal by literal as P8 has it.
func (w *writer) writeDifference(d, a, b int) Said {
	said := Said{Variable: d, Clause: w.count + 1}
	w.clause(-d, a, b)
	w.clause(-d, -a, -b)
	w.clause(d, -a, b)
	w.clause(d, a, -b)
	return said
}

// writeAny says that one of some variables is true, or more.
func (w *writer) writeAny(variables []int) {
	for _, v := range variables {
		w.literal(v)
	}
	w.end()
}
