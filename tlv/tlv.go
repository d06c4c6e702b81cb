// Package tlv is layer 2, data objects (BER-TLV): see shared/doc/02-tlv.md.
package tlv

import (
	"bytes"
	"slices"
	"strings"

	"smartcard/api"
	"smartcard/octets"
)

const (
	following = 0x1f // the bits of a tag's first byte that are all 1 if a second byte follows
	nested    = 0x20 // the bit of a tag's first byte that is 1 if the object is constructed

	minSecond = 0x1f // the second byte of a tag
	maxSecond = 0x7f

	long    = 0x80 // a first byte of a length from here on tells how many bytes follow
	maxWide = 2    // the greatest number of these bytes

	// maxLevels is the nesting up to which the document's bound promises anything.
	// Without a limit, a list that contains itself would never be at its end.
	maxLevels = 1 << 16
)

// Valid reports whether a number is a tag of one or two bytes.
func Valid(tag int) bool {
	if tag < 1 || tag > 0xffff {
		return false
	}
	if tag <= 0xff {
		return tag&following != following
	}
	first, second := tag>>8, tag&0xff
	return first&following == following && second >= minSecond && second <= maxSecond
}

// Constructed reports whether a tag is that of a constructed object.
func Constructed(tag int) bool {
	first := tag
	if tag > 0xff {
		first = tag >> 8
	}
	return Valid(tag) && first&nested != 0
}

// Encode returns data objects one after the other, each with the shortest length field.
func Encode(l []api.TLV) ([]byte, api.Errno) {
	if !validList(l, 1) {
		return nil, api.ErrArg
	}
	if size(l) > api.MaxTLV {
		return nil, api.ErrLong
	}
	return encode(l), api.OK
}

// validList reports whether objects of a given depth are valid.
func validList(l []api.TLV, depth int) bool {
	for _, t := range l {
		if depth > api.MaxNest || !validObject(t) || !validList(t.Kids, depth+1) {
			return false
		}
	}
	return true
}

// validObject reports whether an object has a tag, and the kind of value that belongs to it.
func validObject(t api.TLV) bool {
	if Constructed(t.Tag) {
		return len(t.Value) == 0
	}
	return Valid(t.Tag) && len(t.Kids) == 0
}

// size returns the number of bytes of the encoding of a valid list, however long that is.
func size(l []api.TLV) int {
	n := 0
	for _, t := range l {
		content := len(t.Value) + size(t.Kids)
		n += len(tagField(t.Tag)) + len(lengthField(content)) + content
	}
	return n
}

// encode returns the encoding of a valid list that is not too long.
func encode(l []api.TLV) []byte {
	var parts [][]byte
	for _, t := range l {
		content := octets.Join(t.Value, encode(t.Kids))
		parts = append(parts, tagField(t.Tag), lengthField(len(content)), content)
	}
	return octets.Join(parts...)
}

// tagField returns the bytes of a tag.
func tagField(tag int) []byte {
	width := 1
	if tag > 0xff {
		width = 2
	}
	b, _ := octets.Put(tag, width)
	return b
}

// lengthField returns the bytes that tell that a value has n bytes.
func lengthField(n int) []byte {
	switch {
	case n < long:
		return []byte{byte(n)}
	case n <= 0xff:
		return []byte{long + 1, byte(n)}
	}
	return []byte{long + 2, byte(n >> 8), byte(n)}
}

// Decode returns the data objects of which bytes consist.
func Decode(b []byte) ([]api.TLV, api.Errno) {
	if len(b) > api.MaxTLV {
		return nil, api.ErrLong
	}
	return readList(b, 1)
}

// readList returns the objects of a given depth of which bytes consist.
func readList(b []byte, depth int) ([]api.TLV, api.Errno) {
	var l []api.TLV
	for len(b) > 0 {
		t, rest, e := readObject(b, depth)
		if e != api.OK {
			return nil, e
		}
		l = append(l, t)
		b = rest
	}
	return l, api.OK
}

// readObject returns the first object of b, which is not empty, and the bytes after it.
func readObject(b []byte, depth int) (api.TLV, []byte, api.Errno) {
	var t api.TLV
	var n, width int
	var e api.Errno

	if depth > api.MaxNest || b[0] == 0 {
		goto malformed
	}
	t.Tag, b = int(b[0]), b[1:]
	if t.Tag&following != following {
		goto length
	}
	if len(b) == 0 {
		goto short
	}
	t.Tag, b = t.Tag<<8|int(b[0]), b[1:]
	if !Valid(t.Tag) {
		goto malformed
	}

length:
	if len(b) == 0 {
		goto short
	}
	n, b = int(b[0]), b[1:]
	if n < long {
		goto value
	}
	width = n - long
	if width < 1 || width > maxWide {
		goto malformed
	}
	if len(b) < width {
		goto short
	}
	n, _ = octets.Get(b[:width])
	b = b[width:]
	if len(lengthField(n)) != 1+width { // there is a shorter field for this length
		goto malformed
	}

value:
	if len(b) < n {
		goto short
	}
	if t, e = withValue(t.Tag, b[:n], depth); e != api.OK {
		return api.TLV{}, nil, e
	}
	return t, b[n:], api.OK

short:
	return api.TLV{}, nil, api.ErrShort
malformed:
	return api.TLV{}, nil, api.ErrForm
}

// withValue returns the object of a given depth whose value is encoded as b.
func withValue(tag int, b []byte, depth int) (api.TLV, api.Errno) {
	if !Constructed(tag) {
		return api.TLV{Tag: tag, Value: bytes.Clone(b)}, api.OK
	}
	kids, e := readList(b, depth+1)
	if e != api.OK {
		return api.TLV{}, e
	}
	return api.TLV{Tag: tag, Kids: kids}, api.OK
}

// Find returns the first object with the first tag of a path, in it the first one with the second tag, and so on.
func Find(l []api.TLV, path []int) (api.TLV, bool) {
	if len(path) == 0 {
		return api.TLV{}, false
	}
	var found api.TLV
	for _, tag := range path {
		i := slices.IndexFunc(l, func(t api.TLV) bool { return t.Tag == tag })
		if i < 0 {
			return api.TLV{}, false
		}
		found = l[i]
		l = found.Kids
	}
	return copied(found, 1)
}

// copied returns an object of a given depth in new memory; false if it is nested too deeply.
func copied(t api.TLV, depth int) (api.TLV, bool) {
	if depth > maxLevels {
		return api.TLV{}, false
	}
	c := api.TLV{Tag: t.Tag, Value: bytes.Clone(t.Value)}
	for _, kid := range t.Kids {
		k, ok := copied(kid, depth+1)
		if !ok {
			return api.TLV{}, false
		}
		c.Kids = append(c.Kids, k)
	}
	return c, true
}

// Size returns the number of bytes of the encoding.
func Size(l []api.TLV) int {
	b, _ := Encode(l)
	return len(b)
}

// Same reports whether two lists are equal.
func Same(a, b []api.TLV) bool {
	var same func(a, b []api.TLV, depth int) bool
	same = func(a, b []api.TLV, depth int) bool {
		if len(a) != len(b) || len(a) > 0 && depth > maxLevels {
			return false
		}
		for i, x := range a {
			y := b[i]
			if x.Tag != y.Tag || !bytes.Equal(x.Value, y.Value) || !same(x.Kids, y.Kids, depth+1) {
				return false
			}
		}
		return true
	}
	return same(a, b, 1)
}

// Text returns a text with a line for each object.
func Text(l []api.TLV) string {
	if _, e := Encode(l); e != api.OK {
		return ""
	}
	var text strings.Builder
	writeLines(&text, l, 1)
	return text.String()
}

// writeLines writes a line for each object of a given depth, and those of its kids after it.
func writeLines(text *strings.Builder, l []api.TLV, depth int) {
	for _, t := range l {
		text.WriteString(strings.Repeat("  ", depth-1))
		text.WriteString(octets.Hex(tagField(t.Tag)))
		if len(t.Value) > 0 {
			text.WriteString(" " + octets.Hex(t.Value))
		}
		text.WriteString("\n")
		writeLines(text, t.Kids, depth+1)
	}
}
