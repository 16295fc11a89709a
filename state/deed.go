package state

import (
	"umbral/api"
	"umbral/cell"
)

// moment is a state that is being changed. All that an action names in it is there.
type moment struct {
	vars []int
	ints []int
	heap *cell.Heap
}

// deed tells what actions of a kind do.
func deed(kind int) func(m *moment, a api.Action, in int) api.Event {
	deeds := [...]func(m *moment, a api.Action, in int) api.Event{
		api.DoSkip: (*moment).skip,
		api.DoNull: (*moment).null,
		api.DoCopy: (*moment).copy,
		api.DoLoad: (*moment).load,
		api.DoCut:  (*moment).cut,
		api.DoLink: (*moment).link,
		api.DoNew:  (*moment).fresh,
		api.DoFree: (*moment).free,
		api.DoSame: (*moment).skip,
		api.DoPick: (*moment).skip,
		api.DoTake: (*moment).take,
		api.DoPut:  (*moment).put,
		api.DoTest: (*moment).skip,
	}
	return deeds[kind]
}

func (m *moment) skip(api.Action, int) api.Event {
	return api.Event{}
}

func (m *moment) null(a api.Action, _ int) api.Event {
	m.vars[a.X] = 0
	return api.Event{}
}

func (m *moment) copy(a api.Action, _ int) api.Event {
	m.vars[a.X] = m.vars[a.Y]
	return api.Event{}
}

func (m *moment) load(a api.Action, _ int) api.Event {
	to, wrong := m.heap.Get(m.vars[a.Y], a.F)
	if wrong == 0 {
		m.vars[a.X] = to
	}
	return raised(a, wrong)
}

func (m *moment) cut(a api.Action, _ int) api.Event {
	return raised(a, m.heap.Put(m.vars[a.X], a.F, 0))
}

func (m *moment) link(a api.Action, _ int) api.Event {
	return raised(a, m.heap.Put(m.vars[a.X], a.F, m.vars[a.Y]))
}

func (m *moment) fresh(a api.Action, in int) api.Event {
	if in == 0 {
		m.vars[a.X] = 0
		return api.Event{Kind: api.EvNew, At: a.At, N: 0}
	}
	m.vars[a.X] = m.heap.Add(a.T)
	return api.Event{Kind: api.EvNew, At: a.At, N: 1}
}

func (m *moment) free(a api.Action, _ int) api.Event {
	freed := m.vars[a.X]
	if wrong := m.heap.Free(freed); wrong != 0 {
		return raised(a, wrong)
	}
	return api.Event{Kind: api.EvFree, At: a.At, N: freed}
}

func (m *moment) take(a api.Action, in int) api.Event {
	m.ints[a.X] = in
	return api.Event{}
}

func (m *moment) put(a api.Action, _ int) api.Event {
	left, right := number(m.ints, a.L), number(m.ints, a.R)
	switch a.Op {
	case 0:
		m.ints[a.X] = left
	case 1:
		m.ints[a.X] = left + right // the chapter says modulo here
	case 2:
		m.ints[a.X] = left - right
	}
	return api.Event{}
}

// raised is the event of an error's kind; none of 0.
func raised(a api.Action, wrong int) api.Event {
	if wrong == 0 {
		return api.Event{}
	}
	return api.Event{Kind: api.EvError, At: a.At, N: wrong}
}
