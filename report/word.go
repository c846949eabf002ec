package report

import "reef/api"

// kept is how many reports a list keeps at most.
const kept = 64

// word is who says it of whom: of reports that count this is all, for their boot number is the map's.
type word struct{ from, osd int }

// othersWeigh tells whether some storage node but one has a weight: without any nothing could be placed.
func othersWeigh(m api.Map, but int) bool {
	for osd, o := range m.Osds {
		if osd != but && o.Weight > 0 {
			return true
		}
	}
	return false
}

// counting is the question whether a report counts by a map.
func counting(m api.Map) func(r api.Report) bool {
	up := func(osd int) bool { return osd >= 0 && osd < len(m.Osds) && m.Osds[osd].Up }
	return func(r api.Report) bool {
		return r.From != r.Osd && up(r.From) && up(r.Osd) && m.Osds[r.Osd].Boot == r.Boot
	}
}

// unlike is the reports that count, in order, each word once.
func unlike(l []api.Report, counts func(r api.Report) bool) []api.Report {
	var once []api.Report
	had := map[word]struct{}{}
	for _, r := range l {
		w := word{r.From, r.Osd}
		if _, is := had[w]; is || !counts(r) {
			continue
		}
		had[w] = struct{}{}
		once = append(once, r)
	}
	return once
}

// latest is the last reports of a list, as many as are kept.
func latest(l []api.Report) []api.Report { return l[max(0, len(l)-kept):] }

// said counts how many say so of each storage node, in a list in which each word stands once.
func said(l []api.Report) map[int]int {
	times := map[int]int{}
	for _, r := range l {
		times[r.Osd]++
	}
	return times
}
