package model

import "sojourn/api"

// isAct tells whether a is a call and a reply to it, whatever was told ahead.
func isAct(a api.Act) bool {
	return within(a.Call, api.KBook, api.KAsk) &&
		within(a.Book, 1, api.MaxBook) &&
		within(a.Reply, api.CAccepted, api.CDown) &&
		within(a.Now, 0, api.MaxTick) &&
		asksOne(a) && mayReason(a)
}

// asksOne tells whether a asks for just the booking of its number: whole, where it books it, by the number alone where it does not.
func asksOne(a api.Act) bool {
	if a.Call == api.KBook {
		return a.Want.Book == a.Book
	}
	return a.Want == api.Want{}
}

// mayReason tells whether a has a Reason where, and only where, it tells of an abort.
func mayReason(a api.Act) bool {
	if a.Reply == api.CAborted {
		return within(a.Reason, api.ByResource, api.ByCancel)
	}
	return a.Reason == api.ByNone
}

// within tells whether v is from lo to hi.
func within(v, lo, hi int) bool {
	return lo <= v && v <= hi
}
