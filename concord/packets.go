package concord

import "concord/api"

// The rows of the table of states that packets lead to, in the way of table.go. Each has its name in the document's table as a remark.

// RCR+
func (e *End) atGoodRequest(r request) (does []action) {
	switch e.state {
	case api.Closed:
		does = []action{e.sendEndAck(r.Packet)}
	case api.Stopped:
		does = []action{e.countRequests, e.sendRequest, e.sendAck(r), e.enter(api.AckSent)}
	case api.AckRcvd:
		does = []action{e.sendAck(r), e.tellUp, e.enter(api.Opened)}
	case api.Opened:
		does = []action{e.tellDown, e.sendRequest}
		fallthrough
	case api.ReqSent, api.AckSent:
		does = append(does, e.sendAck(r), e.enter(api.AckSent))
	}
	return does
}

// RCR-
func (e *End) atBadRequest(r request) (does []action) {
	switch e.state {
	case api.Closed:
		does = []action{e.sendEndAck(r.Packet)}
	case api.Stopped:
		does = []action{e.countRequests, e.sendRequest, e.sendNak(r), e.enter(api.ReqSent)}
	case api.AckRcvd:
		does = []action{e.sendNak(r)}
	case api.Opened:
		does = []action{e.tellDown, e.sendRequest}
		fallthrough
	case api.ReqSent, api.AckSent:
		does = append(does, e.sendNak(r), e.enter(api.ReqSent))
	}
	return does
}

// RCA
func (e *End) atAgreement(p api.Packet) (does []action) {
	switch e.state {
	case api.Closed, api.Stopped:
		does = []action{e.sendEndAck(p)}
	case api.ReqSent:
		does = []action{e.countRequests, e.enter(api.AckRcvd)}
	case api.AckSent:
		does = []action{e.countRequests, e.tellUp, e.enter(api.Opened)}
	case api.Opened:
		does = []action{e.tellDown}
		fallthrough
	case api.AckRcvd:
		does = append(does, e.sendRequest, e.enter(api.ReqSent))
	}
	return does
}

// RCN
func (e *End) atRefusal(p api.Packet) (does []action) {
	switch e.state {
	case api.Closed, api.Stopped:
		does = []action{e.sendEndAck(p)}
	case api.ReqSent, api.AckSent:
		does = []action{e.countRequests, e.sendRequest}
	case api.Opened:
		does = []action{e.tellDown}
		fallthrough
	case api.AckRcvd:
		does = append(does, e.sendRequest, e.enter(api.ReqSent))
	}
	return does
}

// RTR
func (e *End) atEnd(p api.Packet) (does []action) {
	switch e.state {
	case api.Closed, api.Stopped, api.Closing, api.Stopping, api.ReqSent:
		does = []action{e.sendEndAck(p)}
	case api.AckRcvd, api.AckSent:
		does = []action{e.sendEndAck(p), e.enter(api.ReqSent)}
	case api.Opened:
		does = []action{e.tellDown, e.countNone, e.sendEndAck(p), e.enter(api.Stopping)}
	}
	return does
}

// RTA
func (e *End) atEndAck() (does []action) {
	switch e.state {
	case api.Closing:
		does = []action{e.tellFinish, e.enter(api.Closed)}
	case api.Stopping:
		does = []action{e.tellFinish, e.enter(api.Stopped)}
	case api.Opened:
		does = []action{e.tellDown, e.sendRequest}
		fallthrough
	case api.AckRcvd:
		does = append(does, e.enter(api.ReqSent))
	}
	return does
}

// RUC
func (e *End) atUnknownCode(p api.Packet) (does []action) {
	if e.state != api.Initial && e.state != api.Starting {
		does = []action{e.sendUnknown(p)}
	}
	return does
}

// RXJ+
func (e *End) atOtherUnknown() (does []action) {
	if e.state == api.AckRcvd {
		does = []action{e.enter(api.ReqSent)}
	}
	return does
}

// RXJ-
func (e *End) atNeededUnknown() (does []action) {
	switch e.state {
	case api.Closed, api.Stopped:
		does = []action{e.tellFinish}
	case api.Closing:
		does = []action{e.tellFinish, e.enter(api.Closed)}
	case api.Stopping, api.ReqSent, api.AckRcvd, api.AckSent:
		does = []action{e.tellFinish, e.enter(api.Stopped)}
	case api.Opened:
		does = []action{e.tellDown, e.countEnds, e.sendEnd, e.enter(api.Stopping)}
	}
	return does
}

// RXR
func (e *End) atEcho(p api.Packet) (does []action) {
	if e.state == api.Opened {
		does = []action{e.sendReply(p)}
	}
	return does
}
