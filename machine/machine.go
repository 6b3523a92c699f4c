// Package machine runs programs and says what their steps tell (P4).
package machine

import (
	"leaks/api"
	"leaks/source"
)

// Bits: of a number that a step tells, those of the tag above those of the value.
const Bits = 3 + api.Bits

// state: at is the statement that comes next.
type state struct {
	slots   [source.MaxSlot]int
	cells   [api.MaxArray][api.Cells]int
	at      int
	trapped bool
}

// Tell gives what the first k steps of a program tell, begun with these inputs.
func Tell(p source.Program, in []int, k int) []int {
	var m state
	for i, value := range in {
		m.put(i, value)
	}
	told := []int{}
	for i := 0; i < k; i++ {
		number := m.step(p)
		told = append(told, number)
	}
	return told
}

// step carries out one statement and gives the number that it tells.
func (m *state) step(p source.Program) int {
	if m.trapped {
		return tell(api.Trap, 0)
	}
	if m.at < 0 || m.at >= len(p.Code) {
		return tell(api.Halted, 0)
	}
	s := p.Code[m.at]
	m.at = s.Next
	a := m.value(s.A)
	b := m.value(s.B)
	switch s.Kind {
	case source.Out:
		return tell(api.Output, a)
	case source.If, source.While:
		if a == 0 {
			m.at = s.Else
			return tell(api.Branch, 0)
		}
		return tell(api.Branch, 1)
	case source.Load, source.Store:
		m.access(p, s, a, b)
		return tell(api.Index, a)
	}
	result := Apply(s.Op, a, b)
	m.put(s.Slot, result)
	return tell(api.Quiet, 0)
}

// access loads or stores, or springs the trap, which changes nothing.
func (m *state) access(p source.Program, s source.Statement, index, value int) {
	if !has(p, s.Array, index) {
		m.trapped = true
		return
	}
	if s.Kind == source.Store {
		m.cells[s.Array][index] = value
		return
	}
	loaded := m.cells[s.Array][index]
	m.put(s.Slot, loaded)
}

// has: beside what the program declares, the room that there is bounds the index.
func has(p source.Program, array, index int) bool {
	if array < 0 || array >= len(p.Cells) || array >= api.MaxArray {
		return false
	}
	return index >= 0 && index < p.Cells[array] && index < api.Cells
}

func (m *state) value(a source.Atom) int {
	if !a.Named {
		return a.Value
	}
	if a.Value < 0 || a.Value >= len(m.slots) {
		return 0
	}
	return m.slots[a.Value]
}

func (m *state) put(slot, value int) {
	if slot >= 0 && slot < len(m.slots) {
		m.slots[slot] = value
	}
}

func tell(tag, value int) int {
	return tag*api.Values + value
}
