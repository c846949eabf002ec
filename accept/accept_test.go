package accept

import (
	"testing"

	"reef/api"
)

// P15.4

// has is an acceptor that has promised and accepted a value.
func has(a api.Acceptor, b api.Ballot, value string) api.Acceptor {
	a.Promised, a.Has, a.At, a.Value = b, true, b, value
	return a
}

func TestAccept(t *testing.T) {
	for _, a := range []api.Acceptor{{}, {Promised: bal(1, 0)}, {Commits: row(5)}, mixed()} {
		next := int64(len(a.Commits)) + 1
		for _, b := range []api.Ballot{bal(5, 3), bal(5, 4), bal(6, 0), bal(top, 4)} { // an equal one, and later ones
			accepting(t, a, b, next, "w", has(a, b, "w"), api.AcYes)
			accepting(t, a, b, next-1, "w", promising(a, b), api.AcOld)
			accepting(t, a, b, next+1, "w", promising(a, b), api.AcAhead)
		}
	}
}

func TestAcceptNot(t *testing.T) {
	for _, a := range fits() {
		last := bal(top, mons-1)
		for _, version := range odd() {
			for _, b := range improper() {
				accepting(t, a, b, version, "w", a, api.AcNo)
			}
			accepting(t, a, last, version, "", a, api.AcNo)
			accepting(t, a, last, version, text(257), a, api.AcNo)
			accepting(t, a, bal(0, 0), version, "", a, api.AcNo)
		}
	}
	for _, b := range []api.Ballot{bal(5, 2), bal(5, 0), bal(4, 3), bal(4, 4), bal(1, 0)} { // what is promised is later
		for version := int64(-1); version < 7; version++ {
			accepting(t, mixed(), b, version, "w", mixed(), api.AcNo)
		}
	}
}

func TestAcceptValues(t *testing.T) {
	for n, ac := range map[int]int{0: api.AcNo, 1: api.AcYes, 2: api.AcYes, 255: api.AcYes, 256: api.AcYes, 257: api.AcNo, 70000: api.AcNo} {
		want := api.Acceptor{}
		if ac == api.AcYes {
			want = has(want, bal(1, 2), text(n))
		}
		accepting(t, api.Acceptor{}, bal(1, 2), 1, text(n), want, ac)
	}
	for _, v := range []string{"\x00", "\xff\xfe", "é", " "} { // any bytes
		accepting(t, mixed(), bal(5, 3), 4, v, has(mixed(), bal(5, 3), v), api.AcYes)
	}
}

func TestAcceptVersions(t *testing.T) {
	b := bal(7, 1)
	for _, a := range []api.Acceptor{{}, mixed(), {Commits: []string{"a"}}, {Promised: b, Commits: row(end - 1)}} {
		n := int64(len(a.Commits))
		for _, version := range append(odd(), n-1, n, n+1, n+2) {
			switch {
			case version <= n:
				accepting(t, a, b, version, "w", promising(a, b), api.AcOld)
			case version == n+1:
				accepting(t, a, b, version, "w", has(a, b, "w"), api.AcYes)
			default:
				accepting(t, a, b, version, "w", promising(a, b), api.AcAhead)
			}
		}
	}
}

func TestAcceptWhereAllIsCommitted(t *testing.T) {
	b := bal(7, 1)
	a := full()
	for version, ac := range map[int64]int{-1: api.AcOld, 0: api.AcOld, 1: api.AcOld, end - 1: api.AcOld, end: api.AcOld, end + 1: api.AcAhead, end + 2: api.AcAhead} {
		accepting(t, a, b, version, "w", promising(a, b), ac)
		accepting(t, a, bal(5, 2), version, "w", a, api.AcNo)
	}
	a = knowing(a, row(end-1)...)
	accepting(t, a, b, end, "w", has(a, b, "w"), api.AcYes)
}

// What was accepted gives way to a later ballot, and to another value of the same one.
func TestAcceptAgain(t *testing.T) {
	a := accepting(t, api.Acceptor{}, bal(1, 2), 1, "a", has(api.Acceptor{}, bal(1, 2), "a"), api.AcYes)
	a = accepting(t, a, bal(1, 2), 1, "a", a, api.AcYes)
	a = accepting(t, a, bal(1, 2), 1, "b", has(a, bal(1, 2), "b"), api.AcYes)
	a = accepting(t, a, bal(1, 3), 1, "c", has(a, bal(1, 3), "c"), api.AcYes)
	a = accepting(t, a, bal(1, 2), 1, "d", a, api.AcNo)
	a = prepare(t, a, bal(2, 0), promising(a, bal(2, 0)), true)
	a = accepting(t, a, bal(1, 3), 1, "e", a, api.AcNo)
	accepting(t, a, bal(2, 0), 1, "f", has(a, bal(2, 0), "f"), api.AcYes)
}

// The chapter's examples.
func TestExamples(t *testing.T) {
	a := prepare(t, api.Acceptor{}, bal(1, 2), api.Acceptor{Promised: bal(1, 2)}, true)
	a = prepare(t, a, bal(1, 1), a, false)
	a = accepting(t, a, bal(1, 2), 1, "a", has(a, bal(1, 2), "a"), api.AcYes)
	a = accepting(t, a, bal(1, 1), 1, "b", a, api.AcNo)
	a = accepting(t, a, bal(2, 0), 2, "b", api.Acceptor{Promised: bal(2, 0), Has: true, At: bal(1, 2), Value: "a"}, api.AcAhead)
	wantPromise(t, a, 4, 0, api.Promise{Mon: 4, Has: true, At: bal(1, 2), Value: "a"})
	a = learn(t, a, 0, []string{"a", "c"}, knowing(a, "a", "c"), 2)
	a = accepting(t, a, bal(2, 0), 1, "z", a, api.AcOld)
	learn(t, a, 1, []string{"x", "d"}, knowing(a, "a", "c", "d"), 1)
}
