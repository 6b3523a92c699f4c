package diagram

import (
	"leaks/api"
	"leaks/source"
)

// maker: the nodes so far, in chains of those that fall together: heads has the last node of each chain, and behind the node before each (0: none, for False is in no chain). row has the nodes that fold makes one of.
type maker struct {
	program source.Program
	bits    []int
	nodes   []Node
	heads   []int
	behind  []int
	row     []int
}

func begin(p source.Program, bits []int, runs int) maker {
	return maker{
		program: p,
		bits:    bits,
		nodes:   make([]Node, undecided),
		heads:   make([]int, runs),
		behind:  make([]int, undecided),
		row:     make([]int, runs),
	}
}

// lay puts for each run the node into the row that says what one bit of one step is: False is 0 and True is 1, as the bit is.
func (m *maker) lay(runs [][]int, step, bit int) {
	for i, told := range runs {
		m.row[i] = told[step] >> bit & 1
	}
}

// fold gives the node that says what the row says, one node for each run: level by level two nodes become one.
func (m *maker) fold() int {
	rest := len(m.row)
	for _, bit := range m.bits {
		rest /= 2
		for i := 0; i < rest; i++ {
			node := m.node(bit, m.row[2*i], m.row[2*i+1])
			m.row[i] = node
		}
	}
	if rest == 0 {
		return False
	}
	return m.row[0]
}

// node gives the node that decides so, a new one only if there is none.
func (m *maker) node(bit, low, high int) int {
	if low == high {
		return low
	}
	chain := (bit + low*7919 + high*104729) % len(m.heads)
	for n := m.heads[chain]; n != 0; n = m.behind[n] {
		if m.nodes[n].Bit == bit && m.nodes[n].Low == low && m.nodes[n].High == high {
			return n
		}
	}
	secret := m.program.Secret[bit/api.Bits] || m.nodes[low].Secret || m.nodes[high].Secret
	m.nodes = append(m.nodes, Node{Bit: bit, Low: low, High: high, Secret: secret})
	m.behind = append(m.behind, m.heads[chain])
	m.heads[chain] = len(m.nodes) - 1
	return len(m.nodes) - 1
}
