package clauses

import "strconv"

// writer: the clauses so far, how many they are, and the variables that are taken.
type writer struct {
	vars  int
	count int
	text  []byte
}

// fresh gives so many new variables.
func (w *writer) fresh(count int) []int {
	var variables []int
	for i := 0; i < count; i++ {
		w.vars++
		variables = append(variables, w.vars)
	}
	return variables
}

// clause writes a clause of at most three literals; those that are 0 are left out.
func (w *writer) clause(a, b, c int) {
	w.literal(a)
	w.literal(b)
	w.literal(c)
	w.end()
}

func (w *writer) literal(l int) {
	if l == 0 {
		return
	}
	w.text = strconv.AppendInt(w.text, int64(l), 10)
	w.text = append(w.text, ' ')
}

func (w *writer) end() {
	w.text = append(w.text, '0', '\n')
	w.count++
}
