package nfa

import (
	"larum/api"
	"larum/regex"
	"larum/utf"
)

// runeBytes is of how many bytes a rune is at most.
const runeBytes = 4

// where is where a machine is in a text.
type where struct {
	states []regex.State
	in     map[int]struct{} // the states that it is in
	takes  []int            // those of them that may take a rune
	spare  []int            // room for these behind the next rune
	halt   bool             // is one of them a Halt?
}

// run has m take the runes of s, as far as it can and these are valid, and
// tells where it is at first, and behind each rune, with where that ends.
func (m *Machine) run(s string, tell func(end int, w *where)) {
	if m.Len() == 0 {
		return
	}
	w := &where{states: m.states, in: map[int]struct{}{}}
	w.enter(m.at)
	tell(0, w)
	for end := 0; end < len(s) && len(w.takes) > 0; {
		// No more than one rune's bytes, so that s is not copied as a whole.
		r, size, e := utf.Next([]byte(s[end:min(end+runeBytes, len(s))]))
		if e != api.OK {
			return
		}
		w.step(r)
		end += size
		tell(end, w)
	}
}

// step goes on behind the rune r.
func (w *where) step(r rune) {
	takes := w.takes
	w.takes, w.spare = w.spare[:0], takes
	w.halt = false
	clear(w.in)
	for _, at := range takes {
		if s := w.states[at]; regex.In(r, s.Not, s.Spans) {
			w.enter(s.One)
		}
	}
}

// enter goes into a state, and into all that Splits lead to from there.
func (w *where) enter(at int) {
	if _, had := w.in[at]; had {
		return
	}
	w.in[at] = struct{}{}
	switch s := w.states[at]; s.Kind {
	case regex.Split:
		w.enter(s.One)
		w.enter(s.Two)
	case regex.Take:
		w.takes = append(w.takes, at)
	case regex.Halt:
		w.halt = true
	}
}
