package accept

import (
	"iter"
	"slices"

	"reef/api"
)

// proper tells whether a ballot is one that a monitor can ask by.
func proper(b api.Ballot) bool {
	return 1 <= b.Round && b.Round <= api.MaxRound && 0 <= b.Mon && b.Mon < api.MaxMons
}

// fitPromised tells whether a ballot can be what is promised: a proper one, or none.
func fitPromised(b api.Ballot) bool { return b == api.Ballot{} || proper(b) }

func fitValue(s string) bool { return 1 <= len(s) && len(s) <= api.MaxValue }

// fitAccepted tells whether what an acceptor has accepted is fit beside what it has promised.
func fitAccepted(a api.Acceptor) bool {
	if !a.Has {
		return a.At == api.Ballot{} && a.Value == ""
	}
	return proper(a.At) && !Later(a.At, a.Promised) && fitValue(a.Value)
}

func fitCommits(l []string) bool {
	unfit := func(v string) bool { return !fitValue(v) }
	return len(l) <= api.MaxCommits && !slices.ContainsFunc(l, unfit)
}

// copied is an acceptor that shares no memory with the one that came in.
func copied(a api.Acceptor) api.Acceptor {
	a.Commits = slices.Clone(a.Commits)
	return a
}

// count is how many values are committed.
func count(a api.Acceptor) int64 { return int64(len(a.Commits)) }

// from ranges over a row's values from a place on, which may lie outside of it.
func from(l []string, first int64) iter.Seq[string] {
	return func(yield func(string) bool) {
		if first < 0 || first >= int64(len(l)) {
			return
		}
		for _, v := range l[first:] {
			if !yield(v) {
				return
			}
		}
	}
}
