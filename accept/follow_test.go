package accept

import (
	"fmt"
	"math/rand"
	"slices"
	"testing"

	"reef/api"
)

// model is an acceptor as the chapter's words have it: a ballot is a pair, the zero pair none.
type model struct {
	promised, at [2]int64
	value        string
	commits      []string
}

// modelOf is a fit acceptor's.
func modelOf(a api.Acceptor) model {
	return model{pair(a.Promised), pair(a.At), a.Value, slices.Clone(a.Commits)}
}

func pair(b api.Ballot) [2]int64 { return [2]int64{b.Round, int64(b.Mon)} }

// acceptor is the model as one.
func (m model) acceptor() api.Acceptor {
	return api.Acceptor{
		Promised: bal(m.promised[0], int(m.promised[1])), Has: m.at[0] > 0, At: bal(m.at[0], int(m.at[1])),
		Value: m.value, Commits: slices.Clone(m.commits),
	}
}

// isValue tells whether a text is a value, by the chapter's words.
func isValue(s string) bool { return len(s) > 0 && len(s) < 257 }

func (m *model) prepare(b [2]int64) bool {
	if b[0] < 1 || b[0] > top || b[1] < 0 || b[1] > 4 || slices.Compare(m.promised[:], b[:]) > 0 {
		return false
	}
	m.promised = b
	return true
}

func (m *model) accept(b [2]int64, version int64, value string) int {
	if !isValue(value) || !m.prepare(b) {
		return 0
	}
	for v := range m.commits {
		if version <= int64(v)+1 {
			return 2
		}
	}
	switch {
	case version < 1:
		return 2
	case version > int64(len(m.commits))+1 || version > end:
		return 3
	}
	m.at, m.value = b, value
	return 1
}

func (m *model) learn(first int64, values []string) int {
	if first < 0 || first > int64(len(m.commits)) {
		return 0
	}
	was := len(m.commits)
	for i, v := range values {
		place := int(first) + i
		if place < len(m.commits) {
			continue
		}
		if place == end || !isValue(v) {
			break
		}
		m.commits = append(m.commits, v)
		m.at, m.value = [2]int64{}, ""
	}
	return len(m.commits) - was
}

// chanceBallot is mostly one that can be asked by, about what is promised.
func (m *model) chanceBallot(r *rand.Rand) api.Ballot {
	switch r.Intn(30) {
	case 0, 1, 2:
		return pick(r, improper()...)
	case 3:
		return bal(pick[int64](r, 1, 2, 3, top-1, top), r.Intn(mons))
	}
	return bal(m.promised[0]+pick[int64](r, -1, 0, 0, 0, 1), r.Intn(mons))
}

// chanceText is mostly a value.
func chanceText(r *rand.Rand) string {
	return pick(r, "a", "b", "c", "d", "e", "f", "g", "\xff", text(255), text(256), text(257), "")
}

func chanceTexts(r *rand.Rand) []string {
	l := make([]string, r.Intn(5))
	for i := range l {
		l[i] = chanceText(r)
	}
	return l
}

// near is a number about another one, often that one.
func near(r *rand.Rand, n int) int64 {
	if r.Intn(20) == 0 {
		return pick(r, odd()...)
	}
	return int64(n + pick(r, -3, -2, -1, -1, 0, 0, 0, 0, 1, 2))
}

// chanceAcceptor is a fit one.
func chanceAcceptor(r *rand.Rand) api.Acceptor {
	a := pick(r, fits()...)
	a.Commits = row(r.Intn(20))
	if r.Intn(15) == 0 {
		a.Commits = row(end - r.Intn(9))
	}
	return a
}

// step does one step of chance at an acceptor and its model, and holds their answers against each other: the call, and the acceptor behind it.
func (m *model) step(t *testing.T, r *rand.Rand, a api.Acceptor) (string, api.Acceptor) {
	t.Helper()
	n := len(m.commits)
	switch r.Intn(8) {
	case 0, 1:
		b := m.chanceBallot(r)
		ok := m.prepare(pair(b))
		return fmt.Sprintf("Prepare(%v)", b), prepare(t, a, b, m.acceptor(), ok)
	case 2, 3, 4:
		b, version, value := m.chanceBallot(r), near(r, n+1), chanceText(r)
		ac := m.accept(pair(b), version, value)
		return fmt.Sprintf("Accept(%v, %d, %.9q)", b, version, value), accepting(t, a, b, version, value, m.acceptor(), ac)
	case 5, 6:
		first, l := near(r, n), chanceTexts(r)
		more := m.learn(first, l)
		return fmt.Sprintf("Learn(%d, %.9q)", first, l), learn(t, a, first, l, m.acceptor(), more)
	}
	first := near(r, n)
	var l []string
	for i, v := range m.commits {
		if first >= 0 && int64(i) >= first {
			l = append(l, v)
		}
	}
	mon, most := r.Intn(7), r.Intn(7)-1
	wantPromise(t, a, mon, first, api.Promise{Mon: mon, Count: int64(n), Has: m.at[0] > 0, At: m.acceptor().At, Value: m.value}, l...)
	wantSome(t, a, first, most, l[:min(len(l), max(most, 0))]...)
	return "Promise, Values", a
}

// P15.2 to P15.6, and what follows, P15.7 (never back), P15.9 (fit): behind whatever row of calls.
func TestRunsOfChance(t *testing.T) {
	r := rand.New(rand.NewSource(15))
	replaced, dropped := 0, 0
	for range 600 {
		a := chanceAcceptor(r)
		m := modelOf(a)
		for range 60 {
			was := a
			var what string
			what, a = m.step(t, r, a)
			wantFit(t, a, true)
			if fault := back(was, a); fault != "" {
				t.Fatalf("behind %s of %s: %s: %s", what, brief(was), brief(a), fault)
			}
			if was.Has && a.Has && was.At != a.At {
				replaced++
			}
			if was.Has && !a.Has {
				dropped++
			}
		}
	}
	if replaced < 200 || dropped < 200 {
		t.Errorf("what was accepted was replaced %d times, dropped %d times", replaced, dropped)
	}
}

// back tells what of an acceptor has gone back (P15.7); nothing, if nothing has.
func back(was, is api.Acceptor) string {
	p, q := pair(was.Promised), pair(is.Promised)
	if slices.Compare(p[:], q[:]) > 0 {
		return "what is promised is earlier"
	}
	n := len(was.Commits)
	if len(is.Commits) < n || !slices.Equal(is.Commits[:n], was.Commits) {
		return "the committed values begin otherwise"
	}
	if !was.Has || len(is.Commits) > n || is.Has && is.At == was.At && is.Value == was.Value {
		return ""
	}
	p, q = pair(was.At), pair(is.At)
	if !is.Has || slices.Compare(p[:], q[:]) > 0 {
		return "what was accepted is not"
	}
	return ""
}

// What is answered hangs on nothing but what is asked.
func TestAskedAtTheSameTime(t *testing.T) {
	a := mixed()
	values := []string{"c", "d"}
	got := make(chan api.Acceptor)
	for range 8 {
		go func() {
			b, _ := Learn(a, 2, values)
			b, _ = Accept(b, bal(7, 0), 5, "e")
			got <- b
		}()
	}
	want := has(knowing(a, "a", "b", "c", "d"), bal(7, 0), "e")
	for range 8 {
		if b := <-got; !alike(b, want) {
			t.Errorf("%s; want %s", brief(b), brief(want))
		}
	}
}

// 0.1: of an unfit acceptor nothing is promised, but that each call ends and none panics.
func TestUnfitAcceptors(t *testing.T) {
	r := rand.New(rand.NewSource(16))
	odds := func() api.Ballot { return bal(pick(r, odd()...), int(pick(r, odd()...))) }
	for range 3000 {
		a := api.Acceptor{Promised: odds(), Has: r.Intn(2) == 0, At: odds(), Value: chanceText(r), Commits: chanceTexts(r)}
		if r.Intn(50) == 0 {
			a.Commits = row(end + r.Intn(3))
		}
		_, _ = Prepare(a, odds())
		_, _ = Promise(a, int(pick(r, odd()...)), pick(r, odd()...))
		_, _ = Accept(a, odds(), pick(r, odd()...), chanceText(r))
		_, _ = Learn(a, pick(r, odd()...), chanceTexts(r))
		_ = Values(a, pick(r, odd()...), int(pick(r, odd()...)))
		_, _ = Fit(a), Same(a, a)
	}
}
