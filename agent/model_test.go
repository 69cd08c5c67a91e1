package agent

import (
	"math/rand"
	"slices"
	"testing"

	"railpoint/api"
	"railpoint/plain"
)

// told is all that an agent was told and has not refused, from which the model answers each time anew.
type told struct {
	number int
	table  api.Table
	heard  []api.Msg
	done   []int
}

// opsOf has the ops of a round that came ahead of its end, by index: of those of one index the first.
func (m *told) opsOf(round int) [201]*api.Op {
	var out [201]*api.Op
	for _, x := range m.heard {
		if x.Kind == 1 && x.Round == round && out[x.Index] == nil {
			out[x.Index] = &x.Op
		}
	}
	return out
}

// heardOf counts them.
func (m *told) heardOf(round int) int {
	n := 0
	for _, o := range m.opsOf(round) {
		if o != nil {
			n++
		}
	}
	return n
}

// size is how many ops a round has, -1 if it was not asked for.
func (m *told) size(round int) int {
	i := slices.IndexFunc(m.heard, func(x api.Msg) bool { return x.Kind == 2 && x.Round == round })
	if i < 0 {
		return -1
	}
	return m.heard[i].Index
}

func (m *told) ready() int {
	for round := range 20 {
		n := m.size(round)
		if n < 0 || slices.Contains(m.done, round) {
			continue
		}
		ops := m.opsOf(round)
		if !slices.Contains(ops[:n], nil) {
			return round
		}
	}
	return -1
}

// hear takes a message that has no fault.
func (m *told) hear(x api.Msg) []api.Msg {
	if slices.Contains(m.done, x.Round) {
		if x.Kind == 2 {
			return []api.Msg{yes(m.number, x.Round)}
		}
		return nil
	}
	m.heard = append(m.heard, x)
	return nil
}

// work does the round that is ready, with its table changed on the spot.
func (m *told) work() []api.Msg {
	round := m.ready()
	ops := m.opsOf(round)
	was := slices.Clone(m.table)
	for _, o := range ops[:m.size(round)] {
		if !m.change(*o) {
			m.table = was
			break
		}
	}
	m.done = append(m.done, round)
	return []api.Msg{yes(m.number, round)}
}

// change does an op, if it can be done.
func (m *told) change(o api.Op) bool {
	i := slices.IndexFunc(m.table, func(r api.Rule) bool { return r.Prio == o.Rule.Prio && r.Cube == o.Rule.Cube })
	switch {
	case o.Add && i < 0 && len(m.table) < 12:
		m.table = append(m.table, o.Rule)
		return true
	case !o.Add && i >= 0 && m.table[i] == o.Rule:
		m.table = slices.Delete(m.table, i, i+1)
		return true
	}
	return false
}

// randomRule has one of a few rules, so that many clash and many are there.
func randomRule(r *rand.Rand) api.Rule {
	return api.Rule{Prio: r.Intn(4), Cube: api.Cube{Mask: 8, Bits: 8 * r.Intn(2)}, Out: 1 + r.Intn(4)/3}
}

// randomTable has some rules, often nearly as many as there may be.
func randomTable(r *rand.Rand) api.Table {
	m := told{table: distinct(r.Intn(12))}
	for i := range m.table {
		m.table[i].Prio += 10
	}
	for range r.Intn(6) {
		m.change(api.Op{Add: true, Rule: randomRule(r)})
	}
	return m.table
}

// randomMsg has a message to some switch, most of them right; the rounds and indexes are few.
func randomMsg(r *rand.Rand, to int, rounds, indexes int) api.Msg {
	round, index := r.Intn(rounds), r.Intn(indexes)
	if r.Intn(10) == 0 {
		to = 1 + r.Intn(6)
	}
	switch r.Intn(20) {
	case 0:
		return yes(to, round)
	case 1:
		m := add(to, round, index, randomRule(r))
		*[]*int{&m.Kind, &m.Switch, &m.Round, &m.Index, &m.Op.Rule.Prio, &m.Op.Rule.Set}[r.Intn(6)] = 1000
		return m
	case 2, 3, 4, 5, 6, 7:
		return ask(to, round, index)
	case 8, 9, 10, 11:
		return take(to, round, index, randomRule(r))
	}
	return add(to, round, index, randomRule(r))
}

// faultOf tells what is wrong with one of these messages.
func faultOf(m api.Msg, number int) api.Errno {
	switch {
	case m.Kind == 1000, m.Switch == 1000, m.Round == 1000, m.Index == 1000, m.Op.Rule.Prio == 1000, m.Op.Rule.Set == 1000:
		return api.ErrRange
	case m.Switch != number:
		return api.ErrNone
	case m.Kind == 3:
		return api.ErrState
	}
	return api.OK
}

// agrees asks that an agent stands as the model does.
func agrees(t *testing.T, a *Agent, m *told) {
	t.Helper()
	tableIs(t, a, m.table...)
	doneAre(t, a, m.done...)
	readyIs(t, a, m.ready())
	for round := -1; round <= 20; round++ {
		if got, want := a.Heard(round), m.heardOf(round); got != want {
			t.Errorf("Heard(%d): %d, want %d", round, got, want)
		}
	}
}

// TestByTheModel: random agents, messages and work, step by step.
func TestByTheModel(t *testing.T) {
	r := rand.New(rand.NewSource(14))
	worked, stayed, faults, answered := 0, 0, 0, 0
	for range 500 {
		m := &told{number: 1 + r.Intn(6), table: randomTable(r)}
		a := fresh(t, m.number, m.table)
		rounds, indexes := 1+r.Intn(20), 1+r.Intn(5)
		for range 60 {
			if r.Intn(4) == 0 && m.ready() >= 0 {
				was, size := slices.Clone(m.table), m.size(m.ready())
				want := m.work()
				if got, err := a.Work(); !slices.Equal(got, want) || err != nil {
					t.Errorf("Work: %v, %v, want %v", got, err, want)
				}
				worked++
				if size > 0 && slices.Equal(was, m.table) {
					stayed++
				}
			} else if m.ready() < 0 {
				rests(t, a)
			}
			x := randomMsg(r, m.number, rounds, indexes)
			fault := faultOf(x, m.number)
			var want []api.Msg
			if fault == api.OK {
				want = m.hear(x)
			} else {
				faults++
			}
			if got, err := a.Hear(x); !slices.Equal(got, want) || plain.Told(err) != fault {
				t.Errorf("Hear(%v): %v, %v, want %v, %v", x, got, err, want, fault)
			}
			answered += len(want)
			agrees(t, a, m)
			if t.Failed() {
				t.FailNow()
			}
		}
	}
	if worked < 1000 || stayed < 300 || faults < 1000 || answered < 1000 {
		t.Errorf("too few of a kind: %d worked, %d stayed, %d faults, %d answered", worked, stayed, faults, answered)
	}
}

// TestAllAtOnce: rounds that come in any order, with messages twice, end as they were meant to.
func TestAllAtOnce(t *testing.T) {
	r := rand.New(rand.NewSource(41))
	for range 300 {
		table := randomTable(r)
		want, size := &told{table: slices.Clone(table)}, 1+r.Intn(30)
		var l []api.Msg
		for i := 0; i < size; {
			o := api.Op{Switch: 4, Add: r.Intn(2) == 0, Rule: randomRule(r)}
			if want.change(o) {
				l = append(l, api.Msg{Kind: 1, Switch: 4, Round: 2, Index: i, Op: o})
				i++
			}
		}
		l = append(l, ask(4, 2, size))
		l = append(l, l...)
		r.Shuffle(len(l), func(i, j int) { l[i], l[j] = l[j], l[i] })
		a := fresh(t, 4, table)
		hears(t, a, l...)
		works(t, a, 4, 2)
		stands(t, a, want.table, map[int]int{2: size}, -1, 2)
	}
}
