package field

import (
	"math/rand"
	"slices"
	"testing"

	"railpoint/agent"
	"railpoint/api"
	"railpoint/drive"
	"railpoint/net"
	"railpoint/plain"
	"railpoint/topo"
)

// story is a field told otherwise: nothing of it ever goes, and each thing has the time at which it came, and at
// which it went (0: it has not).
type story struct {
	topo     api.Topo
	agents   map[int]*agent.Agent // by switch
	drive    *drive.Drive
	decks    []api.Round
	time     int
	said     []saying
	sent     []sending
	answered int // when the last answer to the round ahead was heard, 0: none was
}

type saying struct {
	api.Msg
	gone int
}

type sending struct {
	from string
	came int
	gone int
	fate api.Fate
}

// begin a story.
func begin(t *testing.T, n api.Net, l []api.Round, wait int) *story {
	t.Helper()
	s := &story{topo: n.Topo, agents: map[int]*agent.Agent{}, decks: l, time: 1}
	for i, x := range n.Tables {
		a, err := agent.New(i+1, x)
		if err != nil {
			t.Fatal(err)
		}
		s.agents[i+1] = a
	}
	d, err := drive.New(l, wait)
	if err != nil {
		t.Fatal(err)
	}
	s.drive = d
	s.goOn(t)
	return s
}

// places of the messages under way, among all that were said.
func (s *story) places() (out []int) {
	for i, x := range s.said {
		if x.gone == 0 {
			out = append(out, i)
		}
	}
	return out
}

// packets under way, among all that were sent.
func (s *story) packets() (out []int) {
	for i, x := range s.sent {
		if x.gone == 0 {
			out = append(out, i)
		}
	}
	return out
}

func (s *story) tell(l ...api.Msg) {
	for _, m := range l {
		if len(s.places()) < 200 {
			s.said = append(s.said, saying{Msg: m})
		}
	}
}

// goOn has the drive say the next round, where it is time for it.
func (s *story) goOn(t *testing.T) {
	t.Helper()
	if len(s.drive.Left()) > 0 || s.drive.Round() == len(s.decks) {
		return
	}
	for _, x := range s.sent {
		if x.gone == 0 && x.came < s.answered {
			return
		}
	}
	l, err := s.drive.Next()
	if err != nil {
		t.Fatal(err)
	}
	s.tell(l...)
	s.answered = 0
}

// now is the net as it is.
func (s *story) now() api.Net {
	n := api.Net{Topo: s.topo}
	for a := 1; a <= s.topo.Switches; a++ {
		n.Tables = append(n.Tables, s.agents[a].Table())
	}
	return n
}

// happen tells what is to be told of an event.
func (s *story) happen(t *testing.T, e api.Event) api.Errno {
	t.Helper()
	s.time++
	err := s.one(e)
	if err == api.OK {
		s.goOn(t)
	}
	return err
}

func (s *story) one(e api.Event) api.Errno {
	places, packets := s.places(), s.packets()
	switch e.What {
	case 1, 2, 3:
		if e.A < 0 || e.A >= len(places) {
			return api.ErrRange
		}
		return s.message(e.What, &s.said[places[e.A]], len(places))
	case 4:
		if s.agents[e.A] == nil {
			return api.ErrRange
		}
		l, err := s.agents[e.A].Work()
		s.tell(l...)
		return plain.Told(err)
	case 5:
		s.tell(s.drive.Tick()...)
		return api.OK
	case 6:
		if e.A < 0 || e.A >= len(s.topo.Hosts) || e.B < 0 || e.B > 15 {
			return api.ErrRange
		}
		return s.send(s.topo.Hosts[e.A], e.B)
	case 7:
		if e.A < 0 || e.A >= len(packets) {
			return api.ErrRange
		}
		s.move(&s.sent[packets[e.A]])
		return api.OK
	}
	return api.ErrRange
}

func (s *story) message(what int, x *saying, under int) api.Errno {
	m := x.Msg
	if what == 3 && under == 200 {
		return api.ErrFull
	}
	if what == 3 {
		s.tell(m)
		return api.OK
	}
	x.gone = s.time
	if what == 2 {
		return api.OK
	}
	if m.Kind == 3 {
		if s.drive.Hear(m) == nil {
			s.answered = s.time
		}
	} else if a := s.agents[m.Switch]; a != nil {
		l, _ := a.Hear(m)
		s.tell(l...)
	}
	return api.OK
}

func (s *story) send(h api.Host, header int) api.Errno {
	if len(s.sent) == 200 {
		return api.ErrFull
	}
	x := sending{from: h.Name, came: s.time}
	x.fate.Hops = []api.Hop{{At: h.At, Header: header}}
	s.sent = append(s.sent, x)
	return api.OK
}

// move a packet, by asking where it goes out, and what is there.
func (s *story) move(x *sending) {
	last := x.fate.Hops[len(x.fate.Hops)-1]
	out, header, err := net.Step(s.now(), last.At, last.Header)
	if err != nil {
		x.fate.How = 2
	} else if name, err := topo.At(s.topo, out); err == nil {
		x.fate.How, x.fate.Host = 1, name
	} else if peer, err := topo.Peer(s.topo, out); err != nil {
		x.fate.How = 3
	} else {
		next := api.Hop{At: peer, Header: header}
		x.fate.Hops = append(x.fate.Hops, next)
		if i := slices.Index(x.fate.Hops, next); i < len(x.fate.Hops)-1 || len(x.fate.Hops) > 24 {
			x.fate.How, x.fate.Hops = 4, x.fate.Hops[:len(x.fate.Hops)-1]
		}
	}
	if x.fate.How > 0 {
		x.gone = s.time
	}
}

// ends has what became of packets that have ended, as they did.
func (s *story) ends() (out []end) {
	var l []sending
	for _, x := range s.sent {
		if x.gone > 0 {
			l = append(l, x)
		}
	}
	slices.SortFunc(l, func(x, y sending) int { return x.gone - y.gone })
	for _, x := range l {
		out = append(out, end{x.from, x.fate})
	}
	return out
}

// done tells whether all rounds were said, and all of the last one have answered.
func (s *story) done() bool {
	return s.drive.Round() == len(s.decks) && len(s.drive.Left()) == 0
}

// randomTopo has its links and hosts at any of its spots.
func randomTopo(r *rand.Rand) api.Topo {
	t := api.Topo{Switches: 1 + r.Intn(4)}
	var spots []api.Spot
	for _, i := range r.Perm(4 * t.Switches) {
		spots = append(spots, at(i/4+1, i%4+1))
	}
	for _, name := range []string{"ann", "bob", "cid"}[:r.Intn(4)] {
		t.Hosts = append(t.Hosts, api.Host{Name: name, At: spots[0]})
		spots = spots[1:]
	}
	for range len(spots) / 2 {
		if r.Intn(6) > 0 {
			t.Links = append(t.Links, api.Link{A: spots[0], B: spots[1]})
		}
		spots = spots[2:]
	}
	return t
}

// randomRule has a cube of many headers, most often.
func randomRule(r *rand.Rand) api.Rule {
	x := api.Rule{Prio: r.Intn(100), Out: r.Intn(9)}
	x.Cube.Mask = []int{0, 0, 1, 4, 8, 12, 15}[r.Intn(7)]
	x.Cube.Bits = r.Intn(16) & x.Cube.Mask
	if x.Out > 4 {
		x.Out -= 4
	}
	if x.Out > 0 && r.Intn(3) == 0 {
		x.Set = r.Intn(16)
		x.Value = r.Intn(16) & x.Set
	}
	return x
}

// randomTable is right.
func randomTable(r *rand.Rand) (l api.Table) {
	for range r.Intn(6) {
		x := randomRule(r)
		if !slices.ContainsFunc(l, func(y api.Rule) bool { return y.Prio == x.Prio }) {
			l = append(l, x)
		}
	}
	return l
}

// randomRounds has ops that can be done, for the most part: some of switches that are not there, some rounds of none.
func randomRounds(r *rand.Rand, n api.Net) (l []api.Round) {
	for range r.Intn(5) {
		var one api.Round
		for range r.Intn(4) * r.Intn(3) {
			a := 1 + r.Intn(n.Topo.Switches)
			if r.Intn(60) == 0 {
				a = 1 + r.Intn(6)
			}
			o := put(a, randomRule(r))
			if a <= n.Topo.Switches && len(n.Tables[a-1]) > 0 && r.Intn(3) == 0 {
				o = take(a, n.Tables[a-1][r.Intn(len(n.Tables[a-1]))])
			}
			one = append(one, o)
		}
		l = append(l, one)
	}
	return l
}

// weights of what happens: how often which kind of event, of 20.
type weights [8]int

func (w weights) pick(r *rand.Rand) int {
	k := r.Intn(20)
	for what, n := range w {
		if k < n {
			return what
		}
		k -= n
	}
	return r.Intn(10) - 1
}

// courses that fields may take: ordinary ones, some in which next to nothing gets lost, some that come to be full of
// messages, or of packets.
var courses = []weights{
	{0, 7, 2, 1, 3, 2, 2, 2}, {0, 8, 0, 0, 4, 0, 2, 5}, {0, 2, 0, 13, 1, 2, 1, 1}, {0, 4, 0, 1, 2, 1, 7, 4}, {0, 5, 1, 1, 4, 1, 3, 4},
}

// randomEvent is most often one that can be done.
func randomEvent(r *rand.Rand, w weights, s *story) api.Event {
	e := api.Event{What: w.pick(r), A: r.Intn(6) - 1, B: r.Intn(6) - 1}
	if r.Intn(10) == 0 {
		return e
	}
	switch e.What {
	case 1, 2, 3:
		// Those that were said first, for the most part: else rounds are never done.
		if n := len(s.places()); n > 0 {
			e.A = min(r.Intn(n), r.Intn(n))
		}
	case 4:
		e.A = 1 + r.Intn(s.topo.Switches)
	case 6:
		e.A, e.B = r.Intn(max(1, len(s.topo.Hosts))), r.Intn(16)
	case 7:
		if n := len(s.packets()); n > 0 {
			e.A = min(r.Intn(n), r.Intn(n))
		}
	}
	return e
}

// asked asks all that a field tells, and counts what was seen.
func (s *story) asked(t *testing.T, f *Field, count map[string]int) {
	t.Helper()
	places := s.places()
	stands(t, f, len(places), len(s.packets()), s.drive.Round(), s.done())
	netIs(t, f, s.now())
	endsAre(t, f, s.ends()...)
	var want []api.Msg
	for _, i := range places {
		want = append(want, s.said[i].Msg)
	}
	underAre(t, f, want...)
	if len(places) == 200 {
		count["full"]++
	}
	if s.done() && len(s.decks) > 0 {
		count["done"]++
	}
	if !s.done() && len(s.drive.Left()) == 0 && s.answered > 0 {
		count["held"]++
	}
}

// TestByTheModel: random fields and events, step by step.
func TestByTheModel(t *testing.T) {
	r := rand.New(rand.NewSource(16))
	count := map[string]int{}
	for i := range 500 {
		n := api.Net{Topo: randomTopo(r)}
		for range n.Topo.Switches {
			n.Tables = append(n.Tables, randomTable(r))
		}
		l, wait := randomRounds(r, n), 1+r.Intn(5)
		f, s := fresh(t, n, wait, l...), begin(t, n, l, wait)
		s.asked(t, f, count)
		for range 120 + 300*(i%5/2) {
			e := randomEvent(r, courses[i%5], s)
			refusal := s.happen(t, e)
			if err := f.Do(e); plain.Told(err) != refusal {
				t.Fatalf("Do(%v): %v, want %v", e, err, refusal)
			}
			s.asked(t, f, count)
			count[refusal.Error()]++
			if t.Failed() {
				t.FailNow()
			}
		}
		for _, x := range s.ends() {
			count[[]string{"", "arrived", "dropped", "lost", "looped"}[x.How]]++
			if len(x.Hops) > 2 {
				count["far"]++
			}
		}
	}
	for _, what := range []string{"OK", "ErrRange", "ErrState", "ErrFull", "full", "done", "held", "arrived", "dropped", "lost", "looped", "far"} {
		if count[what] < 500 {
			t.Errorf("%s: %d times only: %v", what, count[what], count)
		}
	}
}
