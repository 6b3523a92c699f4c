package clauses

import (
	"slices"
	"strings"
	"testing"

	"leaks/diagram"
	"leaks/source"
)

// Two bits are told, of three inputs: one hangs on public inputs alone, and one on a secret, too.
func TestP8Write(t *testing.T) {
	p := source.Program{Secret: []bool{true, false, true}}
	d := diagram.Diagram{
		Nodes: []diagram.Node{
			{}, {},
			{Bit: 5, Low: diagram.False, High: diagram.True},
			{Bit: 8, Low: diagram.True, High: 2, Secret: true},
			{Bit: 3, Low: 3, High: 2, Secret: true},
		},
		Told: []int{2, 4, diagram.True, diagram.False},
	}
	f := Write(p, d)
	// 1 to 4, 5 to 8, 9 to 12 are the first run's inputs, 13 to 16 and 17 to 20 the second run's; then 21 to 24 and 25 to 28 are told, 29 to 32 differ.
	want := strings.Join([]string{
		"-33 6 0", "33 -6 0", // node 2, of both
		"34 9 0", "-34 -9 33 0", "34 -9 -33 0", // node 3, of the first
		"35 17 0", "-35 -17 33 0", "35 -17 -33 0", // and of the second
		"-36 4 34 0", "36 4 -34 0", "-36 -4 33 0", "36 -4 -33 0", // node 4
		"-37 16 35 0", "37 16 -35 0", "-37 -16 33 0", "37 -16 -33 0",
		"-21 33 0", "21 -33 0", "-22 36 0", "22 -36 0", "23 0", "-24 0",
		"-25 33 0", "25 -33 0", "-26 37 0", "26 -37 0", "27 0", "-28 0",
		"-29 21 25 0", "-29 -21 -25 0", "29 -21 25 0", "29 21 -25 0",
		"-30 22 26 0", "-30 -22 -26 0", "30 -22 26 0", "30 22 -26 0",
		"-31 23 27 0", "-31 -23 -27 0", "31 -23 27 0", "31 23 -27 0",
		"-32 24 28 0", "-32 -24 -28 0", "32 -24 28 0", "32 24 -28 0",
		"29 30 31 32 0", "",
	}, "\n")
	if f.Vars != 37 || f.Text != want {
		t.Errorf("P8: %d variables,\n%s\nwant 37,\n%s", f.Vars, f.Text, want)
	}
	bits := []Bit{
		{2, Said{21, 17}, Said{25, 23}, Said{29, 29}},
		{4, Said{22, 19}, Said{26, 25}, Said{30, 33}},
		{diagram.True, Said{23, 21}, Said{27, 27}, Said{31, 37}},
		{diagram.False, Said{24, 22}, Said{28, 28}, Said{32, 41}},
	}
	if f.Clauses != 45 || !slices.Equal(f.Bits, bits) {
		t.Errorf("P9: %d clauses, %v, want 45, %v", f.Clauses, f.Bits, bits)
	}
}

func TestP8WriteNothingTold(t *testing.T) {
	p := source.Program{Secret: []bool{false, true}}
	if f := Write(p, diagram.Diagram{Nodes: make([]diagram.Node, 2)}); f.Vars != 12 || f.Text != "0\n" || f.Clauses != 1 || len(f.Bits) != 0 {
		t.Errorf("P8: %v", f)
	}
}
