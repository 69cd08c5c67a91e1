package drive

import (
	"math/rand"
	"slices"
	"testing"

	"railpoint/agent"
	"railpoint/api"
	"railpoint/plain"
	"railpoint/table"
)

// past is what came to a drive and was not refused, one behind the other, from which the model answers each time
// anew: 0 is a Next, -1 a Tick, and a switch is its answer.
type past struct {
	rounds []api.Round
	wait   int
	events []int
}

func (p *past) said() int {
	n := 0
	for _, e := range p.events {
		if e == 0 {
			n++
		}
	}
	return n
}

// since has what came behind the last Next.
func (p *past) since() []int {
	for i := len(p.events) - 1; i >= 0; i-- {
		if p.events[i] == 0 {
			return p.events[i+1:]
		}
	}
	return nil
}

// left are the switches of the last round that have not answered.
func (p *past) left() (out []int) {
	for a := 1; a <= 6 && p.said() > 0; a++ {
		in := slices.ContainsFunc(p.rounds[p.said()-1], func(o api.Op) bool { return o.Switch == a })
		if in && !slices.Contains(p.since(), a) {
			out = append(out, a)
		}
	}
	return out
}

// mayNext tells whether the next round can be said.
func (p *past) mayNext() bool { return p.said() < len(p.rounds) && len(p.left()) == 0 }

func (p *past) done() bool { return p.said() == len(p.rounds) && len(p.left()) == 0 }

// ticksSince counts those of the last round.
func (p *past) ticksSince() int {
	n := 0
	for _, e := range p.since() {
		if e < 0 {
			n++
		}
	}
	return n
}

// say goes over the last round op by op, and sorts what comes of it by the switches.
func (p *past) say() []api.Msg {
	var out []api.Msg
	var count [7]int
	round := p.said() - 1
	for _, o := range p.rounds[round] {
		out = append(out, do(round, count[o.Switch], o))
		count[o.Switch]++
	}
	for a, n := range count {
		if n > 0 {
			out = append(out, ask(a, round, n))
		}
	}
	slices.SortStableFunc(out, func(x, y api.Msg) int { return x.Switch - y.Switch })
	left := p.left()
	return slices.DeleteFunc(out, func(m api.Msg) bool { return !slices.Contains(left, m.Switch) })
}

// tick tells what is said at the one that came last.
func (p *past) tick() []api.Msg {
	if len(p.left()) == 0 || p.ticksSince()%p.wait != 0 {
		return nil
	}
	return p.say()
}

// randomRounds has rounds of a few ops each, some of them of none.
func randomRounds(r *rand.Rand) (l []api.Round) {
	for range r.Intn(8) {
		var one api.Round
		switches := 1 + r.Intn(6)
		for range r.Intn(3) * r.Intn(5) {
			o := api.Op{Switch: 1 + r.Intn(switches), Add: r.Intn(2) == 0, Rule: of(r.Intn(100), 15, r.Intn(16))}
			one = append(one, o)
		}
		l = append(l, one)
	}
	return l
}

// nextByTheModel has both say the next round, if there is one.
func nextByTheModel(t *testing.T, d *Drive, p *past, count map[string]int) {
	t.Helper()
	if !p.mayNext() {
		noNext(t, d)
		count["no next"]++
		return
	}
	p.events = append(p.events, 0)
	says(t, d, p.say()...)
	count["next"]++
}

// hearByTheModel has both hear a message.
func hearByTheModel(t *testing.T, d *Drive, p *past, m api.Msg, count map[string]int) {
	t.Helper()
	want := api.OK
	switch {
	case m.Kind != 3 || m.Switch < 1 || m.Switch > 6 || m.Round < 0 || m.Round > 19 || m.Index != 0:
		want = api.ErrShape
	case m.Round != p.said()-1 || !slices.Contains(p.left(), m.Switch):
		want = api.ErrState
	default:
		p.events = append(p.events, m.Switch)
	}
	if err := d.Hear(m); plain.Told(err) != want {
		t.Errorf("Hear(%v): %v, want %v", m, err, want)
	}
	count["hear "+want.Error()]++
}

// randomAnswer is most often one that is waited for.
func randomAnswer(r *rand.Rand, p *past) api.Msg {
	m := yes(r.Intn(8), p.said()-1)
	if left := p.left(); len(left) > 0 && r.Intn(2) == 0 {
		m.Switch = left[r.Intn(len(left))]
	}
	switch r.Intn(12) {
	case 0:
		m.Round += r.Intn(5) - 2
	case 1:
		m.Kind = r.Intn(5)
	case 2:
		m.Index = r.Intn(3)
	}
	return m
}

// TestByTheModel: random rounds and calls, step by step.
func TestByTheModel(t *testing.T) {
	r := rand.New(rand.NewSource(15))
	count := map[string]int{}
	for range 1500 {
		p := &past{rounds: randomRounds(r), wait: 1 + r.Intn(4)}
		d := fresh(t, p.wait, p.rounds...)
		for range 60 {
			switch r.Intn(5) {
			case 0:
				nextByTheModel(t, d, p, count)
			case 1, 2:
				hearByTheModel(t, d, p, randomAnswer(r, p), count)
			default:
				p.events = append(p.events, -1)
				want := p.tick()
				ticks(t, d, want...)
				if len(want) > 0 {
					count["said again"]++
				}
			}
			stands(t, d, p.said(), p.done(), p.left()...)
			if t.Failed() {
				t.FailNow()
			}
		}
		if p.done() {
			count["done"]++
		}
	}
	for _, what := range []string{"next", "no next", "hear OK", "hear ErrShape", "hear ErrState", "said again", "done"} {
		if count[what] < 500 {
			t.Errorf("%s: %d times only: %v", what, count[what], count)
		}
	}
}

// lossy is a drive with agents, and messages under way between them that come in any order, twice, or not at all.
type lossy struct {
	drive  *Drive
	agents []*agent.Agent // that of the switch 1 at 0
	under  []api.Msg
}

// step has one thing happen.
func (l *lossy) step(t *testing.T, r *rand.Rand) {
	t.Helper()
	switch r.Intn(8) {
	case 0:
		// What was said ahead of it may be lost, and said again.
		l.under = append(l.under, l.drive.Tick()...)
	case 1, 2:
		if said, err := l.agents[r.Intn(6)].Work(); err == nil {
			l.under = append(l.under, said...)
		}
	default:
		if len(l.under) > 0 {
			l.message(t, r)
		}
	}
	if said, err := l.drive.Next(); err == nil {
		l.under = append(l.under, said...)
	}
}

// message has one of those under way come, once or so that it stays, or be lost.
func (l *lossy) message(t *testing.T, r *rand.Rand) {
	t.Helper()
	i := r.Intn(len(l.under))
	m := l.under[i]
	if r.Intn(8) > 0 || len(l.under) > 60 {
		l.under = slices.Delete(l.under, i, i+1)
	}
	if r.Intn(4) == 0 {
		return
	}
	if m.Kind == 3 {
		l.drive.Hear(m)
		return
	}
	said, err := l.agents[m.Switch-1].Hear(m)
	if err != nil {
		t.Errorf("the agent refuses %v: %v", m, err)
	}
	l.under = append(l.under, said...)
}

// nobodyIsAhead asks that no agent has done a round while one ahead of it is not done by all that it touches.
func (l *lossy) nobodyIsAhead(t *testing.T, deck []api.Round) {
	t.Helper()
	for i, one := range deck {
		for _, o := range one {
			if slices.Contains(l.agents[o.Switch-1].Done(), i) {
				continue
			}
			for a, g := range l.agents {
				if done := g.Done(); len(done) > 0 && slices.Max(done) > i {
					t.Errorf("switch %d has done %v, %d has not done the round %d", a+1, done, o.Switch, i)
				}
			}
		}
	}
}

// randomTable has rules of which many are in another one, too.
func randomTable(r *rand.Rand) (l api.Table) {
	for i := range 8 {
		if r.Intn(3) > 0 {
			l = append(l, of(i, 8, 8*r.Intn(2)))
		}
	}
	return l
}

// randomCourse has rounds that bring tables to others, step by step, and the tables at last.
func randomCourse(r *rand.Rand, tables []api.Table) ([]api.Round, []api.Table) {
	var deck []api.Round
	now := slices.Clone(tables)
	for range 1 + r.Intn(4) {
		var one api.Round
		for _, i := range r.Perm(6)[:r.Intn(6)] {
			to := randomTable(r)
			ops, _ := table.Diff(now[i], to)
			for _, o := range ops {
				o.Switch = i + 1
				one = append(one, o)
			}
			now[i] = to
		}
		deck = append(deck, one)
	}
	return deck, now
}

// TestThoughMessagesAreLost: all rounds are done at last, one behind the other, and it is as it was wanted.
func TestThoughMessagesAreLost(t *testing.T) {
	r := rand.New(rand.NewSource(51))
	for range 120 {
		tables := make([]api.Table, 6)
		l := lossy{agents: make([]*agent.Agent, 6)}
		for i := range 6 {
			tables[i] = randomTable(r)
			a, err := agent.New(i+1, tables[i])
			if err != nil {
				t.Fatal(err)
			}
			l.agents[i] = a
		}
		deck, want := randomCourse(r, tables)
		l.drive = fresh(t, 1+r.Intn(20), deck...)
		for n := 0; !l.drive.Done() && n < 100_000; n++ {
			l.step(t, r)
			l.nobodyIsAhead(t, deck)
		}
		if !l.drive.Done() || l.drive.Round() != len(deck) {
			t.Fatalf("of %d rounds %d were said, and %v are left", len(deck), l.drive.Round(), l.drive.Left())
		}
		for i, a := range l.agents {
			if same, err := table.Same(a.Table(), want[i]); !same || err != nil {
				t.Errorf("switch %d has %v, %v, want %v", i+1, a.Table(), err, want[i])
			}
		}
	}
}
