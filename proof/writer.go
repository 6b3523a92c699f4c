package proof

import "strconv"

// writer: the lines so far, how many they are, and the next number of a clause that is free.
type writer struct {
	lines int
	next  int
	text  []byte
}

// line writes that a clause follows from others, which are its hints, and gives its number.
func (w *writer) line(literals, hints []int) int {
	number := w.next
	w.write(number)
	for _, l := range literals {
		w.write(l)
	}
	w.write(0)
	for _, h := range hints {
		w.write(h)
	}
	w.text = append(w.text, '0', '\n')
	w.next++
	w.lines++
	return number
}

func (w *writer) write(number int) {
	w.text = strconv.AppendInt(w.text, int64(number), 10)
	w.text = append(w.text, ' ')
}
