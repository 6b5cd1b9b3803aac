package model

import (
	"sojourn/api"
	"sojourn/want"
)

// booking is what is known of one that was accepted, by what was told.
type booking struct {
	want      api.Want
	since     int     // when it was accepted
	cancelled bool    // a client took it back, and it was not over then
	end       outcome // the zero one: none was told yet
}

// outcome is an end: what a booking is told for good.
type outcome struct{ reply, reason int }

// firstReply answers the one reply to a where its booking was not accepted yet.
func firstReply(a api.Act) int {
	switch {
	case a.Call != api.KBook:
		return api.CUnknown
	case want.May(a.Want):
		return api.CAccepted
	}
	return api.CRejected
}

// endOf answers the end that a tells; the zero one of another reply.
func endOf(a api.Act) outcome {
	switch a.Reply {
	case api.CBooked:
		return outcome{reply: api.CBooked}
	case api.CAborted:
		return outcome{reply: api.CAborted, reason: a.Reason}
	}
	return outcome{}
}

// mayTell tells whether b's clients may be told a. Once an end was told there was a reason for it, which need not be looked for again.
func (b booking) mayTell(a api.Act) bool {
	switch end := endOf(a); {
	case a.Call == api.KBook && a.Want != b.want:
		return a.Reply == api.CRejected
	case b.end != (outcome{}):
		return end == b.end
	case end.reply == api.CAborted:
		return b.hasReason(a)
	}
	return a.Reply == api.CPending || a.Reply == api.CBooked
}

// hasReason tells whether there was the reason for which a tells that b is aborted. That an inventory refused is nothing that clients can know better.
func (b booking) hasReason(a api.Act) bool {
	switch a.Reason {
	case api.ByFunds:
		return b.want.Price > 0
	case api.ByDeadline:
		return b.want.Deadline > 0 && a.Now-b.since >= b.want.Deadline
	case api.ByCancel:
		return b.cancelled || a.Call == api.KCancel
	}
	return true
}

// told answers b behind a, which may be told. One who booked another booking of that number was told nothing of b.
func (b booking) told(a api.Act) booking {
	switch a.Reply {
	case api.CPending:
		b.cancelled = b.cancelled || a.Call == api.KCancel
	case api.CBooked, api.CAborted:
		b.end = endOf(a)
	}
	return b
}
