package wire

import (
	"cmp"
	"slices"
	"strings"

	"reef/api"
)

// What the limits of all layers leave open.
const (
	maxOpName = 64
	maxErr    = 999
	maxGone   = 2 * api.MaxLog
)

// within tells whether a number is from least to most.
func within[T ~int | ~int64](x, least, most T) bool { return least <= x && x <= most }

// sign tells whether a byte may stand in a name.
func sign(c byte) bool {
	return 'a' <= c && c <= 'z' || '0' <= c && c <= '9' || c == '_' || c == '.'
}

func fitOsd(id int) bool { return within(id, 0, api.MaxOsds-1) }

func fitClient(id int) bool { return within(id, 0, api.MaxClients-1) }

// fitBoot tells whether a number is a boot number, or an instance.
func fitBoot(n int64) bool { return within(n, 1, api.MaxBoot) }

func fitTid(n int64) bool { return within(n, 1, api.MaxTid) }

func fitVersion(n int64) bool { return within(n, 0, api.MaxVer) }

func fitEpoch(n int64) bool { return within(n, 0, api.MaxEpoch) }

func fitAddr(a api.Addr) bool {
	switch a.Kind {
	case api.NdMon:
		return within(a.Id, 0, api.MaxMons-1)
	case api.NdOsd:
		return fitOsd(a.Id)
	case api.NdClient:
		return fitClient(a.Id)
	}
	return false
}

// fitHead tells whether a message is fit ahead of its parts.
func fitHead(m *api.Msg) bool {
	if !fitAddr(m.From) || !fitAddr(m.To) || m.From == m.To {
		return false
	}
	if m.From.Kind == api.NdMon {
		return m.Boot == 0
	}
	return fitBoot(m.Boot)
}

func fitBallot(b api.Ballot) bool {
	return within(b.Round, 0, api.MaxRound) && within(b.Mon, 0, api.MaxMons-1) && (b.Round > 0 || b.Mon == 0)
}

func fitStamp(s api.Stamp) bool {
	return fitEpoch(s.Epoch) && fitVersion(s.Ver) && (s.Epoch == 0) == (s.Ver == 0)
}

func fitPg(p api.Pg) bool {
	return within(p.Pool, 0, api.MaxPools-1) && within(p.Num, 0, api.MaxPGs-1)
}

func fitRes(r api.Res) bool { return within(r.Err, 0, maxErr) && len(r.Data) <= api.MaxImage }

// fitValue tells whether a message has a value just where it must.
func fitValue(m *api.Msg) bool {
	if m.Has || m.Kind == api.MsAccept {
		return within(len(m.Value), 1, api.MaxValue)
	}
	return m.Value == ""
}

func fitValues(l []string) bool {
	long := func(s string) bool { return len(s) > api.MaxValue }
	return len(l) <= api.MaxTell && !slices.ContainsFunc(l, long)
}

// rising tells whether a list holds so many at most, each of them fit, and each ahead of the next one.
func rising[T any](l []T, most int, fit func(x T) bool, order func(a, b T) int) bool {
	if len(l) > most {
		return false
	}
	for i, x := range l {
		if !fit(x) || i > 0 && order(l[i-1], x) >= 0 {
			return false
		}
	}
	return true
}

func fitLog(l []api.Entry) bool {
	return rising(l, api.MaxLog, Entry, func(a, b api.Entry) int {
		return cmp.Or(cmp.Compare(a.At.Epoch, b.At.Epoch), cmp.Compare(a.At.Ver, b.At.Ver))
	})
}

func fitDup(d api.Dup) bool {
	return fitClient(d.Client) && fitBoot(d.Inst) && fitTid(d.Tid) && fitRes(d.Res)
}

func fitDups(l []api.Dup) bool {
	return rising(l, api.MaxDups, fitDup, func(a, b api.Dup) int { return cmp.Compare(a.Client, b.Client) })
}

func fitObject(o api.Object) bool {
	if !o.Locked && o.Holder != (api.Ban{}) || o.Locked && !fitHolder(o.Holder) {
		return false
	}
	return Name(o.Name) && len(o.Data) <= api.MaxObject
}

func fitHolder(b api.Ban) bool { return fitClient(b.Client) && fitBoot(b.Inst) }

func fitObjects(l []api.Object) bool {
	return rising(l, api.MaxObjects, fitObject, func(a, b api.Object) int { return strings.Compare(a.Name, b.Name) })
}

func fitInfo(i api.Info) bool {
	return fitOsd(i.Osd) && fitEpoch(i.Les) && fitStamp(i.Last) && fitLog(i.Log)
}

func fitPush(p api.Push) bool {
	return fitEpoch(p.Les) && fitStamp(p.Last) && fitLog(p.Log) && fitDups(p.Dups) &&
		fitObjects(p.Objects) && rising(p.Gone, maxGone, Name, strings.Compare)
}
