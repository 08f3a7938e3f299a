package regex

import (
	"math"
	"slices"

	"larum/api"
)

// mostStates is what numbers of states are cut off at. They are of 64 bits, so
// that two of them may be multiplied.
const mostStates int64 = math.MaxInt32

// measure is what is told of a node: how many states it makes, how deep it is
// (as values are: 0 of a kind that has no kids), and is it wrong?
type measure struct {
	states int64
	deep   int
	wrong  bool
}

// measures has those of all nodes with kids that were met. Each is looked at
// once, as kids of one list may stand in many nodes made by hand, and a node
// may hold itself.
type measures map[*Node]measure

func (l measures) of(n *Node) measure {
	switch n.Kind {
	case Empty:
		return measure{}
	case Rune:
		return measure{states: 1}
	}
	told, had := l[n]
	if had {
		return told
	}
	// This is what a node finds that holds itself.
	l[n] = measure{states: mostStates, deep: deepest}
	told = l.ofKids(n)
	l[n] = told
	return told
}

// ofKids: what is told of a node by its kids.
func (l measures) ofKids(n *Node) measure {
	if !known(n) {
		return measure{wrong: true}
	}
	all := measure{deep: 1}
	for i := range n.Kids {
		kid := l.of(&n.Kids[i])
		all.states += kid.states
		all.deep = max(all.deep, kid.deep+1)
		all.wrong = all.wrong || kid.wrong
	}
	switch n.Kind {
	case Either:
		all.states += int64(max(len(n.Kids)-1, 0))
	case Repeat:
		all.states = repeated(n, all.states)
		all.wrong = all.wrong || n.Least < 0 || n.Most < n.Least && n.Most != endless || n.Most > api.MaxRepeat
	}
	all.states = min(all.states, mostStates)
	return all
}

// known: is there such a node with kids?
func known(n *Node) bool {
	switch n.Kind {
	case Concat, Either:
		return true
	case Repeat:
		return len(n.Kids) == 1
	}
	return false
}

// repeated: how many states a Repeat makes of a kid that makes kid of them.
func repeated(n *Node, kid int64) int64 {
	states := above(n.Least, 0) * kid
	if n.Most != endless {
		return states + above(n.Most, n.Least)*(kid+1)
	}
	if n.Least == 0 {
		states = kid
	}
	return states + 1
}

// above: how much a is above b, cut off, and 0, if it is not.
func above(a, b int) int64 {
	if a <= b {
		return 0
	}
	// Without a sign, as what is between them may be too great for an int.
	return int64(min(uint64(a)-uint64(b), uint64(mostStates)))
}

// maker has the states that were made so far.
type maker struct {
	states []State
	told   measures
}

// add makes a state: its number.
func (m *maker) add(s State) int {
	m.states = append(m.states, s)
	return len(m.states) - 1
}

// node makes the states of n, which go on to the state next: where they begin.
func (m *maker) node(n *Node, next int) int {
	if m.told.of(n).states == 0 {
		return next
	}
	switch n.Kind {
	case Rune:
		return m.add(State{Kind: Take, Not: n.Not, Spans: slices.Clone(n.Spans), One: next})
	case Concat:
		for i := range n.Kids {
			next = m.node(&n.Kids[len(n.Kids)-1-i], next)
		}
		return next
	case Either:
		return m.either(n.Kids, next)
	}
	return m.repeat(n, next)
}

// either makes the states of kids of which one is taken.
func (m *maker) either(kids []Node, next int) int {
	last := len(kids) - 1
	at := m.node(&kids[last], next)
	for i := last - 1; i >= 0; i-- {
		one := m.node(&kids[i], next)
		at = m.add(State{Kind: Split, One: one, Two: at})
	}
	return at
}

// repeat makes the states of a Repeat.
func (m *maker) repeat(n *Node, next int) int {
	kid, at := &n.Kids[0], next
	if n.Most != endless {
		for range n.Most - n.Least {
			one := m.node(kid, at)
			at = m.add(State{Kind: Split, One: one, Two: next})
		}
		return m.times(kid, n.Least, at)
	}
	loop := m.add(State{Kind: Split, Two: next})
	begin := m.node(kid, loop)
	m.states[loop].One = begin
	if n.Least == 0 {
		return loop
	}
	return m.times(kid, n.Least-1, begin)
}

// times makes the states of a kid so often, one behind the other.
func (m *maker) times(kid *Node, often, next int) int {
	if m.told.of(kid).states == 0 {
		// It may be said very often of what makes nothing.
		return next
	}
	for range often {
		next = m.node(kid, next)
	}
	return next
}
