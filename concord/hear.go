package concord

import (
	"concord/api"
	"concord/line"
	"concord/terms"
)

// take takes one byte from the line. What a flag ends and is no packet (nothing at all, between two flags, is none either) is as if it had not been, so nobody asks which error it was.
func (e *End) take(c byte) {
	if c != api.Flag {
		e.gather(c)
		return
	}
	p, err := line.Read(e.gathered)
	e.gathered = e.gathered[:0]
	if err == nil {
		e.do(e.atPacket(p))
	}
}

// gather keeps one byte more than a packet may have on the line: by that it is known, when a flag comes, that there were too many, and no line makes an end keep more.
func (e *End) gather(c byte) {
	if len(e.gathered) <= line.MaxEscaped {
		e.gathered = append(e.gathered, c)
	}
}

// request is one that was received: its items, and those of them that are not good.
type request struct {
	api.Packet
	items, bad []terms.Item
}

// atPacket leads to the row of the table of states that a packet belongs to, by its code.
func (e *End) atPacket(p api.Packet) []action {
	switch p.Code {
	case api.Request:
		return e.atRequest(p)
	case api.Ack:
		return e.atAck(p)
	case api.Nak:
		return e.atNak(p)
	case api.End:
		return e.atEnd(p)
	case api.EndAck:
		return e.atEndAck()
	case api.Unknown:
		return e.atUnknown(p)
	case api.Echo:
		return e.atEcho(p)
	case api.Reply:
		return nil
	}
	return e.atUnknownCode(p)
}

func (e *End) atRequest(p api.Packet) []action {
	items, err := terms.ReadAll(p.Data)
	if err != nil {
		return nil
	}
	r := request{Packet: p, items: items, bad: e.notGood(items)}
	if len(r.bad) == 0 {
		return e.atGoodRequest(r)
	}
	if e.isNaking() {
		return e.atRequestToNak(r)
	}
	return e.atBadRequest(r)
}

// isNaking tells whether a Request that is not good gets a Nak, in the state in which the end is.
func (e *End) isNaking() bool {
	switch e.state {
	case api.Stopped, api.ReqSent, api.AckRcvd, api.AckSent, api.Opened:
		return true
	}
	return false
}

// atRequestToNak closes the link instead, where a further Nak would lead nowhere.
func (e *End) atRequestToNak(r request) (does []action) {
	switch {
	case e.isOnceTooOften(r):
		does = []action{e.tellLoop}
	case e.naks >= api.Naks:
		does = []action{e.tellGiveUp}
	default:
		return e.atBadRequest(r)
	}
	return append(does, e.atClose()...)
}

// isOnceTooOften counts the Requests that have come back to this end.
func (e *End) isOnceTooOften(r request) bool {
	if !e.isOwnMagic(r.items[terms.Magic-1].Number) {
		return false
	}
	e.turns++
	return e.turns > api.Turns
}

func (e *End) atAck(p api.Packet) []action {
	if !e.isForLast(p) || p.Data != e.last.Data {
		return nil
	}
	return e.atAgreement(p)
}

func (e *End) atNak(p api.Packet) []action {
	items, err := terms.Read(p.Data)
	if err != nil || !e.isForLast(p) {
		return nil
	}
	does := []action{func() { e.heed(items) }}
	return append(does, e.atRefusal(p)...)
}

// isForLast tells whether a packet has the ID of the last Request. The ID 0 alone does not say that: it is that of no Request at all, too.
func (e *End) isForLast(p api.Packet) bool {
	return e.last.Code == api.Request && p.ID == e.last.ID
}

// atUnknown: without the codes by which ends come to terms, and end, there is no link; without another one there is.
func (e *End) atUnknown(p api.Packet) []action {
	if p.Data == "" {
		return nil
	}
	switch p.Data[0] {
	case api.Request, api.Ack, api.Nak, api.End, api.EndAck:
		return e.atNeededUnknown()
	}
	return e.atOtherUnknown()
}
