package text

import (
	"fmt"
	"math/rand"
	"regexp"
	"strconv"
	"strings"
	"testing"

	"railpoint/api"
	"railpoint/net"
	"railpoint/plain"
	"railpoint/rule"
	"railpoint/wish"
)

const numberForm = `(0|[1-9][0-9]{0,8})`

const spotForm = numberForm + `\.` + numberForm

const cubeForm = `[01*]{4}`

const nameForm = `[a-z]{1,6}`

// forms of the lines, kind by kind.
var forms = []*regexp.Regexp{
	regexp.MustCompile(`\Aswitches ` + numberForm + `\n\z`),
	regexp.MustCompile(`\Alink ` + spotForm + ` ` + spotForm + `\n\z`),
	regexp.MustCompile(`\Ahost ([^ \n]*) ` + spotForm + `\n\z`),
	regexp.MustCompile(`\Arule ([1-6]) ([0-9]{1,2} ` + cubeForm + ` (drop|out [1-4]( set ` + cubeForm + `)?))\n\z`),
	regexp.MustCompile(`\A((reach|apart) ` + nameForm + ` ` + nameForm + `|way ` + nameForm + ` ` + nameForm + ` [1-6]|loops)\n\z`),
}

// noRule is what the form of a rule lets through, though it is none: a needless 0, and nothing that is set.
var noRule = regexp.MustCompile(`\Arule [1-6] 0[0-9]|set \*\*\*\*`)

// parseByForms reads a text by the forms of its lines.
func parseByForms(text string) (pair, int, api.Errno) {
	if len(text) > 3000 {
		return pair{}, 0, api.ErrFull
	}
	var p pair
	kind, last := -1, 1
	for i, line := range strings.SplitAfter(text, "\n") {
		if line == "" && i > 0 {
			break
		}
		k, m := 0, []string(nil)
		for ; k < len(forms) && m == nil; k++ {
			m = forms[k].FindStringSubmatch(line)
		}
		k--
		if m == nil || noRule.MatchString(line) || k < kind || (k == 0) != (i == 0) {
			return pair{}, i, api.ErrSyntax
		}
		kind = k
		n := func(j int) int { x, _ := strconv.Atoi(m[j]); return x }
		switch k {
		case 0:
			p.net.Topo.Switches = n(1)
			p.net.Tables = make([]api.Table, 6)
		case 1:
			p.net.Topo.Links = append(p.net.Topo.Links, link(n(1), n(2), n(3), n(4)))
		case 2:
			p.net.Topo.Hosts = append(p.net.Topo.Hosts, host(m[1], n(2), n(3)))
		case 3:
			if n(1) < last {
				return pair{}, i, api.ErrSyntax
			}
			last = n(1)
			r, _ := rule.Parse(m[2])
			p.net.Tables[last-1] = append(p.net.Tables[last-1], r)
		case 4:
			w, _ := wish.Parse(m[1])
			p.wishes = append(p.wishes, w)
		}
	}
	for len(p.net.Tables) > p.net.Topo.Switches && len(p.net.Tables[len(p.net.Tables)-1]) == 0 {
		p.net.Tables = p.net.Tables[:len(p.net.Tables)-1]
	}
	err := net.Check(p.net)
	if err == nil {
		err = wish.Check(p.net.Topo, p.wishes)
	}
	if err != nil {
		return pair{}, 0, plain.Told(err)
	}
	return p, 0, api.OK
}

// randomPair is a net with wishes, mostly right ones.
func randomPair(r *rand.Rand) pair {
	n := 1 + r.Intn(6)
	p := pair{net: bare(n)}
	var spots []api.Spot
	for _, i := range r.Perm(4 * n) {
		spots = append(spots, spot(1+i/4, 1+i%4))
	}
	for len(spots) > 1 && r.Intn(4) > 0 {
		p.net.Topo.Links = append(p.net.Topo.Links, api.Link{A: spots[0], B: spots[1]})
		spots = spots[2:]
	}
	for _, name := range []string{"a", "bob", "link", "rule", "abcdef"} {
		if len(spots) > 0 && r.Intn(3) > 0 {
			p.net.Topo.Hosts = append(p.net.Topo.Hosts, api.Host{Name: name, At: spots[0]})
			spots = spots[1:]
		}
	}
	for i := range p.net.Tables {
		for range r.Intn(5) {
			mask := r.Intn(16)
			x := out(r.Intn(100), mask, mask&r.Intn(16), r.Intn(5))
			if x.Out > 0 && r.Intn(2) > 0 {
				x.Set = r.Intn(16)
				x.Value = x.Set & r.Intn(16)
			}
			p.net.Tables[i] = append(p.net.Tables[i], x)
		}
	}
	for hosts := p.net.Topo.Hosts; len(hosts) > 0 && r.Intn(3) > 0; {
		w := api.Wish{What: 1 + r.Intn(4)}
		if w.What != api.Loops {
			w.From, w.To = hosts[r.Intn(len(hosts))].Name, hosts[r.Intn(len(hosts))].Name
		}
		if w.What == api.Way {
			w.Via = 1 + r.Intn(n)
		}
		p.wishes = append(p.wishes, w)
	}
	return p
}

// printByHand has the text of a net with wishes, right or wrong.
func printByHand(p pair) string {
	text := fmt.Sprintf("switches %d\n", p.net.Topo.Switches)
	for _, l := range p.net.Topo.Links {
		text += fmt.Sprintf("link %d.%d %d.%d\n", l.A.Switch, l.A.Port, l.B.Switch, l.B.Port)
	}
	for _, h := range p.net.Topo.Hosts {
		text += fmt.Sprintf("host %s %d.%d\n", h.Name, h.At.Switch, h.At.Port)
	}
	for i, t := range p.net.Tables {
		for _, r := range t {
			s, _ := rule.Print(r)
			text += fmt.Sprintf("rule %d %s\n", i+1, s)
		}
	}
	for _, w := range p.wishes {
		s, _ := wish.Print(w)
		text += s + "\n"
	}
	return text
}

// changed has a text with something of it changed.
func changed(r *rand.Rand, text string) string {
	i := r.Intn(len(text))
	const bytes = " \n.0123456789*ab-x\r"
	other := string(bytes[r.Intn(len(bytes))])
	parts := strings.SplitAfter(text, "\n")
	a, b := r.Intn(len(parts)), r.Intn(len(parts))
	switch r.Intn(9) {
	case 0:
		return text[:i] + text[i+1:]
	case 1:
		return text[:i] + other + text[i:]
	case 2:
		return text[:i] + other + text[i+1:]
	case 3:
		return text[:i]
	case 4:
		return text[i:]
	case 5:
		parts[a], parts[b] = parts[b], parts[a]
	case 6:
		parts[a] = parts[b] + parts[a]
	case 7:
		parts[a] = ""
	case 8:
		parts[0] = fmt.Sprintf("switches %d\n", r.Intn(8))
	}
	return strings.Join(parts, "")
}

// TestByForms: random texts, right ones and changed ones, are read as the forms of their lines say.
func TestByForms(t *testing.T) {
	r := rand.New(rand.NewSource(12))
	told := map[api.Errno]int{}
	for range 4000 {
		p := randomPair(r)
		text := printByHand(p)
		want, _, fault := parseByForms(text)
		printed := text
		if fault != api.OK {
			printed = ""
		}
		printIs(t, p, printed, fault)
		for range 6 {
			parseIs(t, text, want, 0, fault)
			text = changed(r, text)
			var at int
			want, at, fault = parseByForms(text)
			parseIs(t, text, want, at, fault)
			told[fault]++
			if fault != api.OK {
				text = printByHand(p)
				want, _, fault = parseByForms(text)
			} else {
				rightIs(t, text)
			}
		}
	}
	for _, fault := range []api.Errno{api.OK, api.ErrSyntax, api.ErrRange, api.ErrClash, api.ErrNone, api.ErrShape} {
		if told[fault] < 20 {
			t.Errorf("%v was told %d times: %v", fault, told[fault], told)
		}
	}
}

// TestParseBytes: each byte at each place of a text.
func TestParseBytes(t *testing.T) {
	for _, text := range []string{"switches 1\nlink 1.1 1.2\nhost ab 1.3\nrule 1 10 1*0* out 1 set ***1\nway ab ab 1\nloops\n", "switches 6\nhost a 6.4\nrule 6 0 **** drop\n"} {
		for i := range len(text) {
			for b := range 256 {
				for _, x := range []string{text[:i] + string([]byte{byte(b)}) + text[i:], text[:i] + string([]byte{byte(b)}) + text[i+1:]} {
					want, at, fault := parseByForms(x)
					parseIs(t, x, want, at, fault)
				}
			}
		}
	}
}

// FuzzParse: any text is read as the forms of its lines say.
func FuzzParse(f *testing.F) {
	for text := range shown() {
		f.Add(text)
	}
	f.Fuzz(func(t *testing.T, text string) {
		want, at, fault := parseByForms(text)
		parseIs(t, text, want, at, fault)
		if fault == api.OK {
			rightIs(t, text)
		}
	})
}
