package wire

import "reef/api"

// part is a part that messages of some kinds have.
type part int

const (
	partBallot part = iota
	partFirst
	partNum
	partOsd
	partHas
	partAt
	partValue
	partValues
	partPg
	partStart
	partInfo
	partPush
	partEntry
	partReq
	partRes
	numParts
)

// parts are those that a kind's messages have, in the order in which they are laid; false, if the kind is none.
func parts(kind int) ([]part, bool) {
	switch kind {
	case api.MsPrepare:
		return []part{partBallot, partFirst}, true
	case api.MsPromise:
		return []part{partBallot, partNum, partFirst, partValues, partHas, partAt, partValue}, true
	case api.MsNack:
		return []part{partBallot}, true
	case api.MsAccept:
		return []part{partBallot, partNum, partValue}, true
	case api.MsAccepted, api.MsBeat:
		return []part{partBallot, partNum}, true
	case api.MsAsk:
		return []part{partFirst}, true
	case api.MsTell:
		return []part{partFirst, partValues}, true
	case api.MsBoot, api.MsPing, api.MsPong:
		return nil, true
	case api.MsDown, api.MsBan:
		return []part{partOsd, partNum}, true
	case api.MsThru:
		return []part{partNum}, true
	case api.MsQuery, api.MsActive:
		return []part{partPg, partStart}, true
	case api.MsInfo, api.MsPull:
		return []part{partPg, partStart, partInfo}, true
	case api.MsPush, api.MsActivate:
		return []part{partPg, partStart, partPush}, true
	case api.MsSub:
		return []part{partPg, partStart, partNum, partHas, partEntry}, true
	case api.MsAck:
		return []part{partPg, partStart, partNum}, true
	case api.MsReq:
		return []part{partPg, partNum, partReq}, true
	case api.MsRes:
		return []part{partPg, partFirst, partNum, partRes}, true
	}
	return nil, false
}

// row is the places of a message's part.
func (p part) row(m *api.Msg) row {
	switch p {
	case partBallot:
		return ballotRow(&m.Ballot)
	case partFirst:
		return number(&m.First)
	case partNum:
		return number(&m.Num)
	case partOsd:
		return number(&m.Osd)
	case partHas:
		return truth(&m.Has)
	case partAt:
		return ballotRow(&m.At)
	case partValue:
		return text(&m.Value)
	case partValues:
		return list(&m.Values, text)
	case partPg:
		return pgRow(&m.Pg)
	case partStart:
		return number(&m.Start)
	case partInfo:
		return infoRow(&m.Info)
	case partPush:
		return pushRow(&m.Push)
	case partEntry:
		return entryRow(&m.Entry)
	case partReq:
		return reqRow(&m.Req)
	case partRes:
		return resRow(&m.Res)
	}
	return chain()
}

// fits tells whether a part is fit in a message that has it.
func (p part) fits(m *api.Msg) bool {
	switch p {
	case partBallot:
		return fitBallot(m.Ballot)
	case partFirst:
		return fitVersion(m.First)
	case partNum:
		return fitVersion(m.Num)
	case partOsd:
		return m.Kind == api.MsBan && fitClient(m.Osd) || m.Kind != api.MsBan && fitOsd(m.Osd)
	case partAt:
		return fitBallot(m.At) && (m.Has || m.At == api.Ballot{})
	case partValue:
		return fitValue(m)
	case partValues:
		return fitValues(m.Values)
	case partPg:
		return fitPg(m.Pg)
	case partStart:
		return within(m.Start, 1, api.MaxEpoch)
	case partInfo:
		return fitInfo(m.Info)
	case partPush:
		return fitPush(m.Push)
	case partEntry:
		return m.Has && Entry(m.Entry) || !m.Has && m.Entry == api.Entry{}
	case partReq:
		return Req(m.Req)
	case partRes:
		return fitRes(m.Res)
	}
	return true
}

// headRow is the places ahead of all parts.
func headRow(m *api.Msg) row {
	return chain(addrRow(&m.From), addrRow(&m.To), number(&m.Boot))
}

// laid is the places of a message that its bytes have, by its kind.
func laid(m *api.Msg) row {
	rows := []row{headRow(m)}
	own, _ := parts(m.Kind)
	for _, p := range own {
		rows = append(rows, p.row(m))
	}
	return chain(rows...)
}

// whole is all places of a message, whatever its kind.
func whole(m *api.Msg) row {
	rows := []row{headRow(m)}
	for p := range numParts {
		rows = append(rows, p.row(m))
	}
	return chain(rows...)
}
