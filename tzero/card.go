package tzero

import (
	"bytes"

	"smartcard/apdu"
	"smartcard/api"
)

// Card is the card's side.
type Card struct {
	phase   phase // nil only if NewCard has not returned this side
	in      [256]bool
	got     []byte // what was received of a header
	head    header // that of the command
	command api.Command
	waits   bool         // the command waits for its reply
	kept    api.Response // what is left for GET RESPONSE; without data nothing is kept
}

// NewCard returns the card's side, given the instructions whose P3 is the length of data for the card.
func NewCard(in []int) *Card {
	c := &Card{}
	for _, ins := range in {
		if ins >= 0 && ins < len(c.in) {
			c.in[ins] = true
		}
	}
	c.phase = c.readHeader
	return c
}

// made reports whether NewCard has returned this side.
func (c *Card) made() bool { return c != nil && c.phase != nil }

// Receive receives bytes, and returns the bytes that the card sends at once.
func (c *Card) Receive(b []byte) []byte {
	if !c.made() {
		return nil
	}
	return process(&c.phase, b)
}

// readHeader is the phase Header.
func (c *Card) readHeader(x byte) []byte {
	c.got = append(c.got, x)
	if len(c.got) < headBytes {
		return nil
	}
	h := header{cla: c.got[0], ins: c.got[1], p1: c.got[2], p2: c.got[3], p3: c.got[4]}
	c.got = nil
	switch {
	case h.cla == noClass:
		return status(api.SWCLA)
	case h.ins>>4 == 6 || h.ins>>4 == 9: // these are no acknowledgements, but begin status words
		return status(api.SWINS)
	case h.isGetResponse():
		return c.answerGetResponse(h)
	}
	return c.begin(h)
}

// begin begins a command: it waits, or its data are expected.
func (c *Card) begin(h header) []byte {
	c.kept = api.Response{}
	c.head = h
	c.command = api.Command{CLA: int(h.cla), INS: int(h.ins), P1: int(h.p1), P2: int(h.p2), Le: fullCount}
	switch {
	case !c.isIncoming(h):
		c.command.Le = h.count()
	case h.p3 > 0:
		c.phase = c.readData
		return []byte{h.ins}
	}
	c.wait()
	return nil
}

// isIncoming reports whether P3 of a header is the number of data bytes for the card.
func (c *Card) isIncoming(h header) bool { return c.in[h.ins] || isSecure(int(h.cla)) }

// readData is the phase Data.
func (c *Card) readData(x byte) []byte {
	c.command.Data = append(c.command.Data, x)
	if len(c.command.Data) == int(c.head.p3) {
		c.wait()
	}
	return nil
}

// wait begins the phase Waiting, which Reply ends.
func (c *Card) wait() {
	c.waits = true
	c.phase = c.ignore
}

// ignore is the phase Waiting.
func (c *Card) ignore(byte) []byte { return nil }

// Command returns the command that waits for its execution.
func (c *Card) Command() (api.Command, bool) {
	if !c.made() || !c.waits {
		return api.Command{}, false
	}
	command := c.command
	command.Data = bytes.Clone(command.Data)
	return command, true
}

// Reply returns the bytes that the card sends as the response to the command that waits; what does not fit is kept for GET RESPONSE.
func (c *Card) Reply(r api.Response) []byte {
	if !c.made() || !c.waits {
		return nil
	}
	c.waits = false
	c.phase = c.readHeader
	b, e := apdu.EncodeResponse(r)
	switch {
	case e != api.OK:
		return status(api.SWUnknown)
	case len(r.Data) == 0:
		return b
	case !c.isIncoming(c.head) && len(r.Data) == c.command.Le:
		return append([]byte{c.head.ins}, b...)
	}
	c.kept = api.Response{Data: bytes.Clone(r.Data), SW: r.SW}
	return c.keptStatus()
}

// keptStatus returns the status word that tells how many bytes are kept: the one that was kept with them if there are none any more.
func (c *Card) keptStatus() []byte {
	switch n := len(c.kept.Data); {
	case n == 0:
		return status(c.kept.SW)
	case n < fullCount:
		return status(api.SWMore + n)
	}
	return status(api.SWMore)
}

// answerGetResponse sends bytes that are kept.
func (c *Card) answerGetResponse(h header) []byte {
	left := c.kept.Data
	n := h.count()
	switch {
	case h.p1 != 0 || h.p2 != 0:
		return status(api.SWP1P2)
	case len(left) == 0:
		return status(api.SWCondition)
	case n > len(left):
		return status(api.SWLe + len(left))
	}
	sent := append([]byte{getResponse}, left[:n]...)
	c.kept.Data = left[n:]
	return append(sent, c.keptStatus()...)
}

// Wait returns the byte by which the card asks for more time.
func (c *Card) Wait() []byte {
	if !c.made() || !c.waits {
		return nil
	}
	return []byte{moreTime}
}
