package tone

import (
	"bytes"

	"smartcard/api"
)

// maxCommand is the greatest number of bytes of a command: its data, and more than enough for all else.
const maxCommand = api.MaxData + 16

// Card is the card's side.
type Card struct {
	side
}

// NewCard returns the card's side, which accepts information fields of up to ifs bytes, with a kind of check values.
func NewCard(ifs, sum int) *Card {
	s, ok := newSide(ifs, firstInf, sum)
	if !ok {
		return nil
	}
	return &Card{side: s}
}

// made reports whether NewCard has returned this side.
func (c *Card) made() bool { return c != nil && c.state != 0 }

// Receive receives the bytes of a transmission, and returns those that the card sends; none if it has nothing to send yet.
func (c *Card) Receive(b []byte) []byte {
	switch {
	case !c.made() || c.state == waiting:
		return nil
	case c.state == asking:
		return c.receiveAnswer(b)
	}
	x, reason := c.read(b)
	switch {
	case reason != api.RFine:
		return c.sendReady(reason)
	case x.Kind == api.BlockI:
		return c.receiveInformation(x)
	case x.Kind == api.BlockR:
		return c.receiveReady(x)
	}
	return c.receiveRequest(x)
}

// receiveAnswer receives what may be the answer to the request for more time.
func (c *Card) receiveAnswer(b []byte) []byte {
	if !c.isAnswered(b) {
		return c.askAgain()
	}
	c.state = waiting
	return nil
}

// receiveInformation receives an I-block.
func (c *Card) receiveInformation(x api.Block) []byte {
	if x.Seq != c.expect || c.state == writing && len(c.pieces) > 0 {
		return c.sendReady(api.ROther)
	}
	if c.state != reading {
		c.in = nil
	}
	c.take(x)
	switch {
	case len(c.in) > maxCommand:
		c.in = nil
		c.state = resting
		return c.sendReady(api.ROther)
	case x.More:
		c.state = reading
		return c.sendReady(api.RFine)
	}
	c.state = waiting
	return nil
}

// receiveReady receives an R-block.
func (c *Card) receiveReady(x api.Block) []byte {
	switch {
	case c.state == writing && x.Seq == c.sent.Seq:
		return c.repeat()
	case c.state == writing && len(c.pieces) > 0:
		return c.sendNext()
	}
	return c.sendReady(api.RFine)
}

// receiveRequest receives an S-block.
func (c *Card) receiveRequest(x api.Block) []byte {
	switch {
	case !x.Answer && x.Code == api.SResync:
		c.stop()
		c.expect, c.next = 0, 0
	case !x.Answer && x.Code == api.SIFS:
		c.other = int(x.Inf[0])
	case !x.Answer && x.Code == api.SAbort:
		c.stop()
	default:
		return c.sendReady(api.ROther)
	}
	return c.answer(x)
}

// stop drops all that is received or sent.
func (c *Card) stop() {
	c.state = resting
	c.sent = api.Block{}
	c.pieces, c.in = nil, nil
}

// Command returns the bytes of the command that waits for its execution.
func (c *Card) Command() ([]byte, bool) {
	if !c.made() || c.state != waiting && c.state != asking {
		return nil, false
	}
	return bytes.Clone(c.in), true
}

// Reply returns the first transmission of the response to the command that waits.
func (c *Card) Reply(b []byte) []byte {
	if !c.made() || c.state != waiting {
		return nil
	}
	c.state = writing
	return c.sendBytes(b)
}

// Extend returns the transmission that asks for more time, n times the usual one.
func (c *Card) Extend(n int) []byte {
	if !c.made() || c.state != waiting || n < 1 || n > 0xff {
		return nil
	}
	c.state = asking
	return c.ask(api.SWTX, n)
}
