package tone

import (
	"bytes"

	"smartcard/api"
)

// maxResponse is the greatest number of bytes of a response: its data, and the status word.
const maxResponse = api.MaxData + 2

// Terminal is the terminal's side.
type Terminal struct {
	side
	failures int       // since the last progress
	complete bool      // the response to the last command is
	reason   api.Errno // the error by which the side failed
}

// NewTerminal returns the terminal's side, given the card's greatest information field and the kind of check values.
func NewTerminal(ifs, sum int) *Terminal {
	s, ok := newSide(firstInf, ifs, sum)
	if !ok {
		return nil
	}
	return &Terminal{side: s}
}

// made reports whether NewTerminal has returned this side.
func (t *Terminal) made() bool { return t != nil && t.state != 0 }

// Offer returns the transmission that tells the card the terminal's greatest information field.
func (t *Terminal) Offer(ifs int) []byte {
	if !t.made() || t.state != resting || !isInf(ifs) {
		return nil
	}
	t.state = offering
	t.progress()
	return t.ask(api.SIFS, ifs)
}

// Send begins a command, and returns the first transmission.
func (t *Terminal) Send(b []byte) []byte {
	if !t.made() || t.state != resting {
		return nil
	}
	t.state = busy
	t.progress()
	t.complete = false
	t.in = nil
	return t.sendBytes(b)
}

// progress forgets the failures.
func (t *Terminal) progress() { t.failures = 0 }

// fail counts a failure, and sends what is sent after it, unless it is one too many.
func (t *Terminal) fail(sent []byte, reason api.Errno) []byte {
	t.failures++
	if t.failures > MaxFailures {
		return t.giveUp(reason)
	}
	return sent
}

// giveUp ends all work of the side.
func (t *Terminal) giveUp(reason api.Errno) []byte {
	t.state = failed
	t.reason = reason
	return nil
}

// Receive receives the bytes of a transmission, and returns those that the terminal sends.
func (t *Terminal) Receive(b []byte) []byte {
	switch {
	case !t.made():
		return nil
	case t.state == offering:
		return t.receiveAnswer(b)
	case t.state != busy:
		return nil
	}
	x, reason := t.read(b)
	switch {
	case reason != api.RFine:
		return t.fail(t.sendReady(reason), api.ErrProtocol)
	case x.Kind == api.BlockI:
		return t.receiveInformation(x)
	case x.Kind == api.BlockR:
		return t.receiveReady(x)
	}
	return t.receiveRequest(x)
}

// receiveAnswer receives what may be the answer to the offer.
func (t *Terminal) receiveAnswer(b []byte) []byte {
	if !t.isAnswered(b) {
		return t.fail(t.askAgain(), api.ErrProtocol)
	}
	t.own = int(t.request.Inf[0])
	t.state = resting
	return nil
}

// receiveInformation receives an I-block.
func (t *Terminal) receiveInformation(x api.Block) []byte {
	if x.Seq != t.expect || len(t.pieces) > 0 {
		return t.fail(t.sendReady(api.ROther), api.ErrProtocol)
	}
	t.progress()
	t.take(x)
	switch {
	case len(t.in) > maxResponse:
		return t.giveUp(api.ErrProtocol)
	case x.More:
		return t.sendReady(api.RFine)
	}
	t.complete = true
	t.state = resting
	return nil
}

// receiveReady receives an R-block.
func (t *Terminal) receiveReady(x api.Block) []byte {
	switch {
	case x.Seq == t.sent.Seq:
		return t.fail(t.repeat(), api.ErrProtocol)
	case len(t.pieces) > 0:
		t.progress()
		return t.sendNext()
	}
	return t.fail(t.sendReady(api.RFine), api.ErrProtocol)
}

// receiveRequest receives an S-block.
func (t *Terminal) receiveRequest(x api.Block) []byte {
	switch {
	case !x.Answer && x.Code == api.SWTX:
	case !x.Answer && x.Code == api.SIFS:
		t.other = int(x.Inf[0])
	case !x.Answer && x.Code == api.SAbort:
		return t.giveUp(api.ErrProtocol)
	default:
		return t.fail(t.sendReady(api.ROther), api.ErrProtocol)
	}
	t.progress()
	return t.answer(x)
}

// Timeout returns the transmission after no transmission has come in time.
func (t *Terminal) Timeout() []byte {
	switch {
	case !t.made():
		return nil
	case t.state == offering:
		return t.fail(t.askAgain(), api.ErrTimeout)
	case t.state == busy:
		return t.fail(t.sendReady(api.ROther), api.ErrTimeout)
	}
	return nil
}

// Response returns the bytes of the response, once it is complete.
func (t *Terminal) Response() ([]byte, bool) {
	if !t.made() || !t.complete {
		return nil, false
	}
	return bytes.Clone(t.in), true
}

// Failed returns the error because of which the command has no response.
func (t *Terminal) Failed() api.Errno {
	switch {
	case !t.made():
		return api.ErrNil
	case t.state == failed:
		return t.reason
	}
	return api.OK
}
