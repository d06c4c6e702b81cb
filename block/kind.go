package block

import (
	"strconv"
	"strings"

	"smartcard/api"
)

// kind is what the kinds of blocks have in common: the parts that a control byte tells, and what depends on them.
type kind interface {
	inRange() bool                 // whether the parts have values that the kind can have
	checkInf(inf []byte) api.Errno // whether the information field is one that the kind can have
	control() byte                 // the control byte
	line(nad, inf string) string   // the line of the block, given the words for its other parts
}

type information struct {
	seq  int
	more bool
}

type ready struct {
	seq, code int
}

type supervisory struct {
	code   int
	answer bool
}

// kindOf returns the parts of a block that belong to its kind.
func kindOf(b api.Block) (kind, bool) {
	switch b.Kind {
	case api.BlockI:
		return information{b.Seq, b.More}, true
	case api.BlockR:
		return ready{b.Seq, b.Code}, true
	case api.BlockS:
		return supervisory{b.Code, b.Answer}, true
	}
	return nil, false
}

// compose returns the block with the given parts, and no others.
func compose(nad int, k kind, inf []byte) api.Block {
	b := api.Block{NAD: nad, Inf: inf}
	switch k := k.(type) {
	case information:
		b.Kind, b.Seq, b.More = api.BlockI, k.seq, k.more
	case ready:
		b.Kind, b.Seq, b.Code = api.BlockR, k.seq, k.code
	case supervisory:
		b.Kind, b.Code, b.Answer = api.BlockS, k.code, k.answer
	}
	return b
}

// parseControl returns what a control byte tells. Its bits are those of a block if that block has the same control byte.
func parseControl(c byte) (kind, bool) {
	var k kind
	switch {
	case c < readyBits:
		k = information{bit(c, seqOfI), c&moreOfI != 0}
	case c < supervisoryBits:
		k = ready{bit(c, seqOfR), int(c &^ (readyBits | seqOfR))}
	default:
		k = supervisory{int(c &^ (supervisoryBits | answerOfS)), c&answerOfS != 0}
	}
	return k, k.inRange() && k.control() == c
}

// bit returns one bit of a control byte as a number.
func bit(c, mask byte) int {
	if c&mask != 0 {
		return 1
	}
	return 0
}

func (k information) inRange() bool { return isBit(k.seq) }
func (k ready) inRange() bool       { return isBit(k.seq) && k.name() != "" }
func (k supervisory) inRange() bool { return k.name() != "" }

// isBit reports whether a number is one of a single bit.
func isBit(n int) bool { return n == 0 || n == 1 }

// name returns the word for the code; the empty string if no R-block has it.
func (k ready) name() string {
	switch k.code {
	case api.RFine:
		return "fine"
	case api.RSum:
		return "sum"
	case api.ROther:
		return "other"
	}
	return ""
}

// name returns the word for the code; the empty string if no S-block has it.
func (k supervisory) name() string {
	switch k.code {
	case api.SResync:
		return "resync"
	case api.SIFS:
		return "ifs"
	case api.SAbort:
		return "abort"
	case api.SWTX:
		return "wtx"
	}
	return ""
}

func (k information) checkInf(inf []byte) api.Errno {
	if len(inf) > api.MaxInf {
		return api.ErrLong
	}
	return api.OK
}

func (k ready) checkInf(inf []byte) api.Errno { return checkEmpty(inf) }

func (k supervisory) checkInf(inf []byte) api.Errno {
	switch k.code {
	case api.SIFS:
		return checkNumber(inf, api.MaxInf)
	case api.SWTX:
		return checkNumber(inf, 0xff)
	}
	return checkEmpty(inf)
}

// checkEmpty reports whether an information field is empty.
func checkEmpty(inf []byte) api.Errno {
	if len(inf) > 0 {
		return api.ErrForm
	}
	return api.OK
}

// checkNumber reports whether an information field is a byte from 1 to the greatest one.
func checkNumber(inf []byte, greatest byte) api.Errno {
	if len(inf) != 1 || inf[0] == 0 || inf[0] > greatest {
		return api.ErrForm
	}
	return api.OK
}

func (k information) control() byte { return byte(k.seq)*seqOfI | mask(k.more, moreOfI) }
func (k ready) control() byte       { return readyBits | byte(k.seq)*seqOfR | byte(k.code) }
func (k supervisory) control() byte {
	return supervisoryBits | mask(k.answer, answerOfS) | byte(k.code)
}

// mask returns the bits if they are set, and no bits otherwise.
func mask(set bool, bits byte) byte {
	if set {
		return bits
	}
	return 0
}

func (k information) line(nad, inf string) string {
	return words("I", nad, strconv.Itoa(k.seq), choose(k.more, "more", "last"), inf)
}

func (k ready) line(nad, inf string) string {
	return words("R", nad, strconv.Itoa(k.seq), k.name())
}

func (k supervisory) line(nad, inf string) string {
	return words("S", nad, k.name(), choose(k.answer, "answer", "request"), inf)
}

// choose returns one word if a part is set, and the other one if it is not.
func choose(set bool, yes, no string) string {
	if set {
		return yes
	}
	return no
}

// words returns words with single spaces between them.
func words(w ...string) string { return strings.Join(w, " ") }
