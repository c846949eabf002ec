package report

import (
	"slices"
	"testing"

	"reef/api"
)

// P17.6

func TestFail(t *testing.T) {
	m := up(4)
	l := wantFail(t, nil, m, of(0, 3), false, of(0, 3))
	l = wantFail(t, l, m, of(0, 3), false, of(0, 3)) // the same once more
	l = wantFail(t, l, m, of(1, 2), false, of(0, 3), of(1, 2))
	l = wantFail(t, l, m, of(3, 1), false, of(0, 3), of(1, 2), of(3, 1)) // by him who is said to be down
	l = wantFail(t, l, m, of(1, 3), true, of(0, 3), of(1, 2), of(3, 1), of(1, 3))
	l = wantFail(t, l, m, of(2, 3), true, append(l, of(2, 3))...)
	l = wantFail(t, l, m, of(0, 3), true, l...) // where it stood
	l = wantFail(t, l, m, of(2, 0), false, append(l, of(2, 0))...)
	l = wantFail(t, l, m, of(1, 0), true, append(l, of(1, 0))...)
	wantFail(t, l, m, of(2, 1), true, append(l, of(2, 1))...)
}

func TestFailOfOneThatDoesNotCount(t *testing.T) {
	m := mixed()
	for _, r := range fall() {
		wantFail(t, nil, m, r, false)
		wantFail(t, stand(), m, r, false, stand()...)
		wantFail(t, slices.Concat(fall(), stand(), fall(), stand()), m, r, false, stand()...)
		wantFail(t, fall(), m, r, false)
	}
	l := []api.Report{of(0, 3), of(1, 3), of(2, 3)} // enough say so, of another boot number
	wantFail(t, l, up(4), says(1, 3, 14), false, l...)
	wantFail(t, l, up(4), says(3, 3, 13), false, l...)
}

// What does not count any more goes, and is not counted.
func TestFailCleans(t *testing.T) {
	m := mixed()
	for _, r := range stand() {
		wantFail(t, fall(), m, r, false, r)
		wantFail(t, slices.Concat(fall(), fall()), m, r, false, r)
	}
	l := slices.Concat(fall(), stand(), fall(), stand())
	wantFail(t, l, m, says(4, 3, last), true, append(stand(), says(4, 3, last))...)
	wantFail(t, l, m, says(3, 4, 1), true, append(stand(), says(3, 4, 1))...)
	wantFail(t, l, m, says(4, 0, 3), true, stand()...) // it stands there
	wantFail(t, l, m, says(5, 4, 1), false, stand()...)
	wantFail(t, []api.Report{says(2, 0, 3), says(1, 0, 3), says(4, 0, 2)}, m, says(3, 0, 3), false, says(3, 0, 3))
}

// Unlike nodes are wanted: the same one's word twice is one.
func TestFailOfTheSameTwice(t *testing.T) {
	for osd := range 8 {
		for from := range 8 {
			if from == osd {
				continue
			}
			l := slices.Repeat([]api.Report{of(from, osd)}, 5)
			wantFail(t, l, up(8), of(from, osd), false, of(from, osd))
			other := (from + 1) % 8
			if other != osd {
				wantFail(t, l, up(8), of(other, osd), true, of(from, osd), of(other, osd))
			}
		}
	}
}

// Of fewer than three that are up one is enough.
func TestFailOfFew(t *testing.T) {
	wantFail(t, nil, up(2), of(0, 1), true, of(0, 1))
	wantFail(t, nil, up(2), of(1, 0), true, of(1, 0))
	wantFail(t, nil, up(2), of(1, 1), false)
	wantFail(t, nil, up(1), of(0, 0), false)
	wantFail(t, nil, up(3), of(0, 1), false, of(0, 1))
	wantFail(t, nil, but(up(3), 2), of(0, 1), true, of(0, 1))
	wantFail(t, nil, but(up(8), 0, 1, 3, 4, 5, 7), of(6, 2), true, of(6, 2))
	wantFail(t, nil, but(up(8), 0, 1, 3, 4, 7), of(6, 2), false, of(6, 2))
	wantFail(t, []api.Report{of(5, 2)}, but(up(8), 0, 1, 3, 4, 7), of(6, 2), true, of(5, 2), of(6, 2))
	wantFail(t, []api.Report{of(5, 2)}, but(up(8), 0, 1, 3, 4, 5, 7), of(2, 6), true, of(2, 6))
}

// Lists of 64 reports and more: all that count stay, for a fit map has no more than 56 words.
func TestFailOfLongLists(t *testing.T) {
	m := up(8)
	l := words(8)[1:]
	for n := range 3 * far {
		long := slices.Concat(l, slices.Repeat([]api.Report{of(0, 7), says(0, 7, 1)}, n)[:n])
		wantFail(t, long, m, words(8)[0], true, append(slices.Clone(l), words(8)[0])...)
		wantFail(t, long, m, of(0, 7), true, l...)
		wantFail(t, long, m, says(1, 0, 11), false, l...)
		same := slices.Repeat([]api.Report{of(2, 3)}, n+1)
		wantFail(t, same, m, of(2, 3), false, of(2, 3))
		wantFail(t, same, m, of(1, 3), true, of(2, 3), of(1, 3))
		wantFail(t, append([]api.Report{of(4, 3)}, same...), m, of(1, 5), false, of(4, 3), of(2, 3), of(1, 5))
	}
}

// A map of more storage nodes than may be has more words: of these the last 64 stay, and who says so in them counts.
func TestFailKeepsTheLast(t *testing.T) {
	m := up(20)
	l := []api.Report{of(0, 9), of(1, 9)}
	for osd := 10; osd < 20; osd++ {
		for from := range 10 {
			l = append(l, of(from, osd))
		}
	}
	for n := 2; n <= len(l); n++ {
		want := append(slices.Clone(l[:n]), of(2, 9))
		want = want[max(0, len(want)-far):]
		wantFail(t, l[:n], m, of(2, 9), n <= far, want...) // of the two others one must stand there still
		wantFail(t, l[:n], m, says(2, 9, 1), false, l[:n]...)
		wantClean(t, l[:n], m, l[:n]...)
	}
}

// P17.7

func TestDown(t *testing.T) {
	m := up(5)
	l := []api.Report{of(0, 3), of(2, 1), of(0, 2), of(4, 3), of(4, 0), of(0, 1)}
	wantDown(t, l, m, 1, 3)
	wantDown(t, l[:5], m, 3)
	wantDown(t, l[:3], m)
	wantDown(t, nil, m)
	wantDown(t, append(l, of(1, 0), of(1, 4), of(2, 4), of(3, 2)), m, 0, 1, 2, 3, 4)
	wantDown(t, words(8), up(8), 0, 1, 2, 3, 4, 5, 6, 7)
	back := words(8)
	slices.Reverse(back)
	wantDown(t, back, up(8), 0, 1, 2, 3, 4, 5, 6, 7)
	wantDown(t, words(8)[:8], up(8), 0)
	wantDown(t, slices.Concat(words(8)[:2], words(8)[6:8]), up(8), 0)
}

// Of the same one twice, and of reports that do not count, none is.
func TestDownOfWhatDoesNotCount(t *testing.T) {
	wantDown(t, slices.Repeat([]api.Report{of(0, 3)}, 100), up(4))
	wantDown(t, fall(), mixed())
	wantDown(t, slices.Concat(fall(), fall()), mixed())
	wantDown(t, slices.Concat(fall(), stand()), mixed(), 0, 3)
	l := []api.Report{of(0, 3), of(1, 3)}
	wantDown(t, l, up(4), 3)
	wantDown(t, l, but(up(4), 3))
	wantDown(t, l, but(up(5), 1))
	wantDown(t, l, with(up(4), func(m *api.Map) { m.Osds[3].Boot++ }))
	wantDown(t, l, up(3))
	wantDown(t, []api.Report{of(0, 3), of(3, 3), says(2, 3, 12), of(1, 2)}, up(4))
}

func TestDownOfFew(t *testing.T) {
	wantDown(t, []api.Report{of(0, 1)}, up(2), 1)
	wantDown(t, []api.Report{of(1, 0)}, up(2), 0)
	wantDown(t, []api.Report{of(1, 0), of(0, 1)}, up(2), 0, 1)
	wantDown(t, []api.Report{of(0, 1)}, up(3))
	wantDown(t, []api.Report{of(6, 2), of(1, 2)}, but(up(8), 0, 1, 3, 4, 5, 7), 2)
	wantDown(t, nil, up(1))
	wantDown(t, nil, but(up(2), 0, 1))
}

// Lists of any length.
func TestDownOfLongLists(t *testing.T) {
	for n := range 3 * far {
		l := slices.Concat([]api.Report{of(1, 6)}, slices.Repeat([]api.Report{of(2, 3)}, n), []api.Report{of(2, 6)})
		wantDown(t, l, up(8), 6)
	}
}
