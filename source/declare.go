package source

import "leaks/api"

// declare gives a name its meaning, unless it has one or a statement stands ahead.
func (r *reader) declare(w string, role, place int) bool {
	if len(r.body) > 0 || !isName(w) {
		return false
	}
	at := w[0] - 'a'
	if r.letters[at].role != nothing {
		return false
	}
	r.letters[at] = letter{role: role, place: place}
	return true
}

func (r *reader) takeInput(words []string, secret bool) bool {
	inputs := len(r.program.Secret)
	if len(words) != 2 || inputs >= api.MaxIn || r.program.Vars > 0 {
		return false
	}
	if !r.declare(words[1], slot, inputs) {
		return false
	}
	r.program.Secret = append(r.program.Secret, secret)
	return true
}

// takeVar can number the slots at once, for no input comes behind a variable.
func (r *reader) takeVar(words []string) bool {
	if len(words) != 2 || r.program.Vars >= api.MaxVar {
		return false
	}
	place := len(r.program.Secret) + r.program.Vars
	if !r.declare(words[1], slot, place) {
		return false
	}
	r.program.Vars++
	return true
}

func (r *reader) takeArray(words []string) bool {
	arrays := len(r.program.Cells)
	if len(words) != 3 || arrays >= api.MaxArray {
		return false
	}
	cells := number(words[2])
	if cells < 1 || cells > api.Cells {
		return false
	}
	if !r.declare(words[1], array, arrays) {
		return false
	}
	r.program.Cells = append(r.program.Cells, cells)
	return true
}
