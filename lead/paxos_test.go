package lead

import (
	"fmt"
	"math/rand"
	"testing"

	"reef/accept"
	"reef/api"
)

// P16.11: monitors that are acceptors and leaders, whose messages come in any order, doubled, or never.

type monitor struct {
	acc  api.Acceptor
	lead api.Leader
	seen int64
}

type letter struct {
	kind     int
	from, to int
	ballot   api.Ballot
	promise  api.Promise
	value    string
}

type net struct {
	t      *testing.T
	r      *rand.Rand
	mons   []monitor
	bag    []letter
	whose  map[api.Ballot]int
	value  map[api.Ballot]string
	yes    map[api.Ballot]map[int]bool
	chosen string
	fresh  int // values that were anything
	taken  int // values that Pick told
	behind int // values that were proposed behind one that was chosen
	refuse int // ballots that were refused
}

func newNet(t *testing.T, r *rand.Rand, n int) *net {
	return &net{t: t, r: r, mons: make([]monitor, n), whose: map[api.Ballot]int{}, value: map[api.Ballot]string{}, yes: map[api.Ballot]map[int]bool{}}
}

// ask sends a monitor's question to all that have not answered it.
func (x *net) ask(i int, l letter) {
	l.from, l.ballot = i, x.mons[i].lead.Ballot
	for _, to := range Wait(x.mons[i].lead, len(x.mons)) {
		l.to = to
		x.bag = append(x.bag, l)
	}
}

// answer sends an answer to a letter.
func (x *net) answer(l letter, kind int) {
	l.kind, l.from, l.to = kind, l.to, l.from
	x.bag = append(x.bag, l)
}

// campaign lets a monitor begin with a ballot that nobody has had.
func (x *net) campaign(i int) {
	m := &x.mons[i]
	b, ok := Next(m.acc.Promised, m.seen, i)
	if _, is := x.whose[b]; is || !ok {
		x.t.Fatalf("monitor %d begins with %v (%v), that %d had", i, b, ok, x.whose[b])
	}
	x.whose[b] = i
	if m.acc, ok = accept.Prepare(m.acc, b); !ok {
		x.t.Fatalf("monitor %d refuses its own %v", i, b)
	}
	own, _ := accept.Promise(m.acc, i, 0)
	m.lead = Begin(b, own)
	x.ask(i, letter{kind: api.MsPrepare})
	x.leads(i)
}

// leads lets a monitor propose, as soon as enough have promised.
func (x *net) leads(i int) {
	m := &x.mons[i]
	if !Enough(m.lead, len(x.mons)) {
		return
	}
	value, is := Pick(m.lead, 0)
	if is {
		x.taken++
	} else {
		x.fresh++
		value = fmt.Sprint("x", x.fresh)
	}
	m.lead = Lead(m.lead)
	if x.chosen != "" {
		x.behind++
	}
	if x.accepts(i, m.lead.Ballot, value) {
		m.lead = Propose(m.lead, value, i)
		x.ask(i, letter{kind: api.MsAccept, value: value})
	}
}

// accepts lets a monitor vote, and counts it: what a majority has accepted at one ballot is chosen, whether anybody hears of it or not.
func (x *net) accepts(i int, b api.Ballot, value string) bool {
	m := &x.mons[i]
	var ac int
	if m.acc, ac = accept.Accept(m.acc, b, 1, value); ac != api.AcYes {
		x.refuse++
		return false
	}
	if x.yes[b] == nil {
		x.yes[b], x.value[b] = map[int]bool{}, value
	}
	x.yes[b][i] = true
	if x.value[b] != value {
		x.t.Fatalf("%v has %s and %s", b, x.value[b], value)
	}
	if 2*len(x.yes[b]) > len(x.mons) {
		if x.chosen != "" && x.chosen != value {
			x.t.Fatalf("%s and %s are accepted by a majority each", x.chosen, value)
		}
		x.chosen = value
	}
	return true
}

func (x *net) deliver(l letter) {
	m := &x.mons[l.to]
	var ok bool
	switch l.kind {
	case api.MsPrepare:
		if m.acc, ok = accept.Prepare(m.acc, l.ballot); !ok {
			x.answer(letter{from: l.from, to: l.to, ballot: m.acc.Promised}, api.MsNack)
			return
		}
		l.promise, _ = accept.Promise(m.acc, l.to, 0)
		x.answer(l, api.MsPromise)
	case api.MsPromise:
		if m.lead.Ballot == l.ballot {
			m.lead = Hear(m.lead, l.promise)
			x.leads(l.to)
		}
	case api.MsNack:
		m.seen = max(m.seen, l.ballot.Round)
	case api.MsAccept:
		if x.accepts(l.to, l.ballot, l.value) {
			x.answer(l, api.MsAccepted)
		}
	case api.MsAccepted:
		if m.lead.Ballot != l.ballot {
			return
		}
		m.lead = Ack(m.lead, l.from)
		if Chosen(m.lead, len(x.mons)) && m.lead.Value != x.chosen {
			x.t.Fatalf("monitor %d holds %s for chosen; %q is", l.to, m.lead.Value, x.chosen)
		}
	}
}

// again asks once more, as a tick does.
func (x *net) again(i int) {
	switch l := x.mons[i].lead; l.State {
	case api.LdAsk:
		x.ask(i, letter{kind: api.MsPrepare})
	case api.LdLead:
		x.ask(i, letter{kind: api.MsAccept, value: l.Value})
	}
}

func (x *net) step() {
	i := x.r.Intn(len(x.mons))
	switch k := x.r.Intn(100); {
	case k < 3 || len(x.bag) == 0:
		x.campaign(i)
	case k < 6:
		x.again(i)
	case k < 8:
		x.mons[i].lead = api.Leader{} // it crashed: what it has accepted it keeps
	default:
		j := x.r.Intn(len(x.bag))
		l := x.bag[j]
		if x.r.Intn(5) > 0 { // else it comes again
			x.bag[j] = x.bag[len(x.bag)-1]
			x.bag = x.bag[:len(x.bag)-1]
		}
		if x.r.Intn(8) > 0 { // else it is lost
			x.deliver(l)
		}
	}
}

func TestNoTwoAreAccepted(t *testing.T) {
	r := rand.New(rand.NewSource(1611))
	for n := 1; n <= mons; n++ {
		var sum net
		chosen := 0
		for range 1000 {
			x := newNet(t, r, n)
			for range 150 {
				x.step()
			}
			if x.chosen != "" {
				chosen++
			}
			sum.fresh, sum.taken, sum.behind, sum.refuse = sum.fresh+x.fresh, sum.taken+x.taken, sum.behind+x.behind, sum.refuse+x.refuse
		}
		if chosen < 600 || sum.fresh < 600 || sum.taken < 600 || sum.behind < 600 || n > 1 && sum.refuse < 200 {
			t.Errorf("%d monitors: a value was chosen in %d runs: %d fresh, %d taken over, %d behind one that was chosen, %d refused", n, chosen, sum.fresh, sum.taken, sum.behind, sum.refuse)
		}
	}
}

// held is an acceptor of the first version, as something that can be compared.
type held struct {
	promised, at api.Ballot
	value        string
}

func heldOf(a api.Acceptor) held { return held{a.Promised, a.At, a.Value} }

func (h held) acceptor() api.Acceptor {
	return api.Acceptor{Promised: h.promised, Has: h.value != "", At: h.at, Value: h.value}
}

// try is a ballot and what has become of it: what was promised, until a value is proposed; who has accepted that.
type try struct {
	ballot api.Ballot
	heard  [3]api.Promise
	said   [3]bool
	value  string
	yes    [3]bool
}

// leader is who asks by a try's ballot.
func (y try) leader() api.Leader {
	own := y.ballot.Mon
	l := Begin(y.ballot, y.heard[own])
	for i, is := range y.said {
		if is && i != own {
			l = Hear(l, y.heard[i])
		}
	}
	return l
}

// hears adds a promise; enough of them tell the value.
func (y try) hears(i int, p api.Promise) try {
	y.heard[i], y.said[i] = p, true
	l := y.leader()
	if !Enough(l, 3) {
		return y
	}
	y.heard, y.said = [3]api.Promise{}, [3]bool{}
	value, is := Pick(l, 0)
	if !is {
		value = fmt.Sprint(y.ballot)
	}
	y.value = value
	return y
}

// world is three monitors and the tries that were begun.
type world struct {
	acc   [3]held
	tries [3]try
	begun int
}

// asks is what may come about when a monitor is asked to promise, or to accept.
func (w world) asks(b, i int) []world {
	y := w.tries[b]
	a := w.acc[i].acceptor()
	if y.value != "" {
		a, ac := accept.Accept(a, y.ballot, 1, y.value)
		w.acc[i] = heldOf(a)
		w.tries[b].yes[i] = y.yes[i] || ac == api.AcYes
		return []world{w}
	}
	a, ok := accept.Prepare(a, y.ballot)
	if !ok || y.said[i] {
		return nil
	}
	w.acc[i] = heldOf(a)
	p, _ := accept.Promise(a, i, 0)
	v := w
	v.tries[b] = y.hears(i, p)
	return []world{v, w} // the promise may be lost
}

// begins is what comes about when a monitor begins with a ballot of its own; what it asked before may still be answered.
func (w world) begins(i int) (world, bool) {
	if w.begun == len(w.tries) {
		return w, false
	}
	b, _ := Next(w.acc[i].promised, 0, i)
	a, ok := accept.Prepare(w.acc[i].acceptor(), b)
	w.acc[i] = heldOf(a)
	p, _ := accept.Promise(a, i, 0)
	w.tries[w.begun] = try{ballot: b}.hears(i, p)
	w.begun++
	return w, ok
}

// next is all that may come about.
func (w world) next() []world {
	var l []world
	for i := range w.acc {
		if v, ok := w.begins(i); ok {
			l = append(l, v)
		}
		for b := range w.begun {
			l = append(l, w.asks(b, i)...)
		}
	}
	return l
}

// chosen is what a majority has accepted at one ballot: none, or one value, or more.
func (w world) chosen() []string {
	var l []string
	for _, y := range w.tries {
		n := 0
		for _, is := range y.yes {
			if is {
				n++
			}
		}
		if n > 1 && (len(l) == 0 || l[0] != y.value) {
			l = append(l, y.value)
		}
	}
	return l
}

// All orders of whatever may come about at three monitors that begin three times in all.
func TestNoTwoAreAcceptedInAnyOrder(t *testing.T) {
	seen := map[world]bool{{}: true}
	work := []world{{}}
	chosen := 0
	for len(work) > 0 {
		w := work[len(work)-1]
		work = work[:len(work)-1]
		c := w.chosen()
		if len(c) > 1 {
			t.Fatalf("%q are accepted by a majority each: %+v", c, w)
		}
		if len(c) > 0 {
			chosen++
		}
		for _, v := range w.next() {
			if !seen[v] {
				seen[v] = true
				work = append(work, v)
			}
		}
	}
	if chosen < 1000 {
		t.Errorf("of %d states a value was chosen in only %d", len(seen), chosen)
	}
}
