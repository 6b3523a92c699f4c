package proof

import (
	"strings"
	"testing"

	"leaks/clauses"
	"leaks/diagram"
	"leaks/source"
)

func formula() clauses.Formula {
	p := source.Program{Secret: []bool{true, false}}
	d := diagram.Diagram{
		Nodes: []diagram.Node{{}, {}, {Bit: 5, Low: diagram.False, High: diagram.True}},
		Told:  []int{diagram.True, 2, diagram.False, 2},
	}
	return clauses.Write(p, d)
}

// The formula: 1 to 4 and 5 to 8 are the first run's inputs, 9 to 12 the second's; 13 to 16 and 17 to 20 are told, 21 to 24 differ; 25 is the node. Clauses 1 and 2 say what the node is, 3 to 8 what the first run tells, 9 to 14 what the second does, 15 to 30 what differs.
func TestP9Write(t *testing.T) {
	want := strings.Join([]string{
		"32 -21 0 3 9 16 0",
		"33 -22 14 0 19 10 5 0", "34 -22 0 33 4 11 20 0",
		"35 -23 0 6 12 23 0",
		"36 -24 16 0 27 13 8 0", "37 -24 0 36 7 14 28 0",
		"38 0 32 34 35 37 31 0", "",
	}, "\n")
	p, ok := Write(formula(), 0)
	if !ok || p.Lines != 7 || p.Text != want {
		t.Errorf("P9: %v, %d lines,\n%s\nwant 7,\n%s", ok, p.Lines, p.Text, want)
	}
}

func TestP9WriteNothingTold(t *testing.T) {
	f := clauses.Write(source.Program{Secret: []bool{true}}, diagram.Diagram{Nodes: make([]diagram.Node, 2)})
	for most := range 3 {
		if p, ok := Write(f, most); !ok || p != (Proof{Lines: 1, Text: "2 0 1 0\n"}) {
			t.Errorf("P9: with at most %d lines: %v, %v", most, p, ok)
		}
	}
}

func TestP10Most(t *testing.T) {
	whole, _ := Write(formula(), 0)
	for most := 1; most < 10; most++ {
		want := Proof{}
		if most >= 7 {
			want = whole
		}
		if p, ok := Write(formula(), most); ok != (most >= 7) || p != want {
			t.Errorf("P10: with at most %d of 7 lines: %v, %v", most, p, ok)
		}
	}
}
