package accept

import (
	"fmt"
	"math/rand"
	"testing"

	"reef/api"
)

// P15.8: acceptors and proposers, whose messages come in any order, doubled, or never.

// proposer is one that asks for promises, and proposes.
type proposer struct {
	ballot   api.Ballot
	promises map[int]api.Promise
	leads    bool
	version  int64
	value    string
	yes      map[int]bool
}

// letter is a message between the proposer and the acceptor of these numbers.
type letter struct {
	kind    int
	pro     int
	acc     int
	ballot  api.Ballot
	promise api.Promise
	version int64
	value   string
}

// vote is what an acceptor may accept.
type vote struct {
	ballot  api.Ballot
	version int64
}

type net struct {
	t      *testing.T
	r      *rand.Rand
	acc    []api.Acceptor
	pro    []proposer
	bag    []letter
	yes    map[vote]map[int]bool
	chosen map[int64]string // by version
	fresh  int
	taken  int // promises of a value that was taken over
	unlike int // promises with unlike counts
	refuse int // accepts that were refused
}

func newNet(t *testing.T, r *rand.Rand, n int) *net {
	return &net{t: t, r: r, acc: make([]api.Acceptor, n), pro: make([]proposer, 3), yes: map[vote]map[int]bool{}, chosen: map[int64]string{}}
}

func (x *net) most() int { return len(x.acc)/2 + 1 }

// send puts a letter to each acceptor into the bag.
func (x *net) send(l letter) {
	for i := range x.acc {
		l.acc = i
		x.bag = append(x.bag, l)
	}
}

// begin lets a proposer ask by a ballot of its own, which it never did before.
func (x *net) begin(i int) {
	p := &x.pro[i]
	round := p.ballot.Round
	for _, q := range x.pro {
		if x.r.Intn(2) == 0 {
			round = max(round, q.ballot.Round)
		}
	}
	*p = proposer{ballot: bal(round+1, i), promises: map[int]api.Promise{}}
	x.send(letter{kind: api.MsPrepare, pro: i, ballot: p.ballot})
}

// propose proposes a value, or one that nobody else does.
func (x *net) propose(i int, version int64, value string) {
	p := &x.pro[i]
	if value == "" {
		x.fresh++
		value = fmt.Sprint("x", x.fresh)
	}
	p.leads, p.version, p.value, p.yes = true, version, value, map[int]bool{}
	x.send(letter{kind: api.MsAccept, pro: i, ballot: p.ballot, version: version, value: value})
}

// hear hears a promise; a majority of them tells what is proposed.
func (x *net) hear(l letter) {
	p := &x.pro[l.pro]
	if p.ballot != l.ballot || p.leads {
		return
	}
	p.promises[l.acc] = l.promise
	if len(p.promises) < x.most() {
		return
	}
	var best api.Promise
	for _, q := range p.promises {
		at, to := pair(q.At), pair(best.At)
		if q.Count > best.Count || q.Count == best.Count && (at[0] > to[0] || at[0] == to[0] && at[1] > to[1]) {
			best = q
		}
	}
	for _, q := range p.promises {
		if q.Count != best.Count {
			x.unlike++
			break
		}
	}
	if best.Has {
		x.taken++
	}
	x.propose(l.pro, best.Count+1, best.Value)
}

// accepted counts a vote: what a majority has accepted at one ballot is chosen, whether anybody hears of it or not.
func (x *net) accepted(l letter) {
	v := vote{l.ballot, l.version}
	if x.yes[v] == nil {
		x.yes[v] = map[int]bool{}
	}
	x.yes[v][l.acc] = true
	if len(x.yes[v]) < x.most() {
		return
	}
	if was, is := x.chosen[l.version]; is && was != l.value {
		x.t.Fatalf("version %d: %s and %s", l.version, was, l.value)
	}
	x.chosen[l.version] = l.value
}

// count lets a proposer count who has accepted; behind a majority it goes on with the next version.
func (x *net) count(l letter) {
	p := &x.pro[l.pro]
	if p.ballot != l.ballot || p.version != l.version {
		return
	}
	p.yes[l.acc] = true
	if len(p.yes) == x.most() {
		x.send(letter{kind: api.MsTell, version: p.version, value: p.value})
		x.propose(l.pro, p.version+1, "")
	}
}

func (x *net) deliver(l letter) {
	a := &x.acc[l.acc]
	var ok bool
	var ac int
	switch l.kind {
	case api.MsPrepare:
		if *a, ok = Prepare(*a, l.ballot); ok {
			l.kind = api.MsPromise
			l.promise, _ = Promise(*a, l.acc, 0)
			x.bag = append(x.bag, l)
		}
	case api.MsPromise:
		x.hear(l)
	case api.MsAccept:
		switch *a, ac = Accept(*a, l.ballot, l.version, l.value); ac {
		case api.AcYes:
			x.accepted(l)
			l.kind = api.MsAccepted
			x.bag = append(x.bag, l)
		case api.AcNo:
			x.refuse++
		}
	case api.MsAccepted:
		x.count(l)
	case api.MsTell:
		*a, _ = Learn(*a, l.version-1, []string{l.value})
	}
}

// gossip lets an acceptor learn what another one has committed.
func (x *net) gossip() {
	i, j := x.r.Intn(len(x.acc)), x.r.Intn(len(x.acc))
	first := int64(x.r.Intn(len(x.acc[i].Commits) + 1))
	x.acc[j], _ = Learn(x.acc[j], first, Values(x.acc[i], first, x.r.Intn(4)))
}

func (x *net) step() {
	switch k := x.r.Intn(100); {
	case k < 4 || len(x.bag) == 0:
		x.begin(x.r.Intn(len(x.pro)))
	case k < 7:
		x.gossip()
	default:
		i := x.r.Intn(len(x.bag))
		l := x.bag[i]
		if x.r.Intn(5) > 0 { // else it comes again
			x.bag[i] = x.bag[len(x.bag)-1]
			x.bag = x.bag[:len(x.bag)-1]
		}
		if x.r.Intn(8) > 0 { // else it is lost
			x.deliver(l)
		}
	}
}

// hold asks that the acceptors have committed what was chosen, and nothing else.
func (x *net) hold() {
	for i, a := range x.acc {
		wantFit(x.t, a, true)
		for v, s := range a.Commits {
			if x.chosen[int64(v)+1] != s {
				x.t.Fatalf("acceptor %d has %s at version %d; %s was chosen", i, s, v+1, x.chosen[int64(v)+1])
			}
		}
	}
}

func TestNoTwoCommitUnlike(t *testing.T) {
	r := rand.New(rand.NewSource(158))
	for n := 1; n <= 6; n++ {
		chosen, taken, unlike, refuse := 0, 0, 0, 0
		for range 60 {
			x := newNet(t, r, n)
			for range 600 {
				x.step()
				x.hold()
			}
			chosen, taken, unlike, refuse = chosen+len(x.chosen), taken+x.taken, unlike+x.unlike, refuse+x.refuse
		}
		if chosen < 200 || taken < 50 || refuse < 100 || n > 1 && unlike < 30 {
			t.Errorf("%d acceptors: %d values were chosen, %d taken over, %d promises had unlike counts, %d accepts were refused", n, chosen, taken, unlike, refuse)
		}
	}
}

// held is an acceptor of at most one committed value, as something that can be compared.
type held struct {
	promised, at api.Ballot
	value        string
	commit       string
}

func heldOf(a api.Acceptor) held {
	h := held{promised: a.Promised, at: a.At, value: a.Value}
	if len(a.Commits) > 0 {
		h.commit = a.Commits[0]
	}
	return h
}

func (h held) acceptor() api.Acceptor {
	a := api.Acceptor{Promised: h.promised, Has: h.value != "", At: h.at, Value: h.value}
	if h.commit != "" {
		a.Commits = []string{h.commit}
	}
	return a
}

// world is three acceptors and three ballots: what each has heard, until it proposes; its value ("-": none any more); who has accepted it.
type world struct {
	acc   [3]held
	heard [3][3]api.Promise
	said  [3][3]bool
	value [3]string
	yes   [3][3]bool
}

// hears adds a promise to what a ballot has heard; a majority of them tells its value.
func (w world) hears(b, i int, p api.Promise) world {
	w.heard[b][i], w.said[b][i] = p, true
	var best api.Promise
	n := 0
	for j, q := range w.heard[b] {
		if !w.said[b][j] {
			continue
		}
		n++
		at, to := pair(q.At), pair(best.At)
		if q.Count > best.Count || q.Count == best.Count && (at[0] > to[0] || at[0] == to[0] && at[1] > to[1]) {
			best = q
		}
	}
	if n < 2 {
		return w
	}
	w.heard[b], w.said[b] = [3]api.Promise{}, [3]bool{}
	switch w.value[b] = best.Value; {
	case best.Count > 0: // the next version's are not looked at
		w.value[b] = "-"
	case !best.Has:
		w.value[b] = fmt.Sprint("x", b)
	}
	return w
}

// chosen is what a majority has accepted at one ballot: none, or one value, or more.
func (w world) chosen() []string {
	var l []string
	for b, yes := range w.yes {
		n := 0
		for _, is := range yes {
			if is {
				n++
			}
		}
		if n > 1 && (len(l) == 0 || l[0] != w.value[b]) {
			l = append(l, w.value[b])
		}
	}
	return l
}

// next is what may come about at an acceptor by a ballot.
func (w world) next(b, i int, ballot api.Ballot) []world {
	var l []world
	a := w.acc[i].acceptor()
	if w.value[b] == "" && !w.said[b][i] {
		if a, ok := Prepare(a, ballot); ok {
			v := w
			v.acc[i] = heldOf(a)
			p, _ := Promise(a, i, 0)
			l = append(l, v, v.hears(b, i, p)) // the promise may be lost
		}
	}
	if w.value[b] != "" && w.value[b] != "-" {
		v := w
		a, ac := Accept(a, ballot, 1, w.value[b])
		v.acc[i] = heldOf(a)
		v.yes[b][i] = v.yes[b][i] || ac == api.AcYes
		l = append(l, v)
	}
	if c := w.chosen(); len(c) > 0 {
		v := w
		a, _ := Learn(a, 0, c[:1])
		v.acc[i] = heldOf(a)
		l = append(l, v)
	}
	return l
}

// All orders of whatever three ballots may ask of three acceptors for the first version.
func TestNoTwoCommitUnlikeInAnyOrder(t *testing.T) {
	ballots := []api.Ballot{bal(1, 0), bal(1, 1), bal(2, 0)}
	seen := map[world]bool{{}: true}
	work := []world{{}}
	chosen := 0
	for len(work) > 0 {
		w := work[len(work)-1]
		work = work[:len(work)-1]
		c := w.chosen()
		if len(c) > 1 {
			t.Fatalf("%q were chosen: %+v", c, w)
		}
		if len(c) > 0 {
			chosen++
		}
		for i := range w.acc {
			for b := range ballots {
				for _, v := range w.next(b, i, ballots[b]) {
					if !seen[v] {
						seen[v] = true
						work = append(work, v)
					}
				}
			}
		}
	}
	if chosen < 1000 {
		t.Errorf("of %d states a value was chosen in only %d", len(seen), chosen)
	}
}
