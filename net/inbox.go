package net

// inbox is where a message comes to its node. A node that is down has none, nil: what is put there is lost, and nothing is ever there.
type inbox chan message

// newInbox answers an inbox with room for one: what comes is asked for at once.
func newInbox() inbox { return make(inbox, 1) }

// put lets m come, if there is room for it.
func (in inbox) put(m message) {
	select {
	case in <- m:
	default:
	}
}

// ask takes out what has come; false: nothing has.
func (in inbox) ask() (message, bool) {
	select {
	case m := <-in:
		return m, true
	default:
		return message{}, false
	}
}
