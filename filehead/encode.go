package filehead

import (
	"bytes"
	"slices"

	"smartcard/access"
	"smartcard/api"
	"smartcard/octets"
	"smartcard/tlv"
)

// The tags of the file control parameters, and of their parts.
const (
	tagHeader = 0x62
	tagKind   = 0x82
	tagID     = 0x83
	tagName   = 0x84
	tagSize   = 0x80
	tagShort  = 0x88
	tagState  = 0x8a
	tagRules  = 0x86
)

const (
	kindBytes   = 1
	recordBytes = 3 // with the length and the number of records
	pairBytes   = 2 // of an identifier, and of a size
)

// header is a valid header, whose methods return the values of its parts: no bytes for a part that it does not have.
type header api.File

func (f header) kind() []byte {
	if hasRecords(f.Kind) {
		return []byte{byte(f.Kind), byte(f.Length), byte(f.Records)}
	}
	return []byte{byte(f.Kind)}
}

func (f header) id() []byte { return pair(f.ID) }

func (f header) name() []byte { return f.Name }

func (f header) size() []byte {
	if f.Kind != api.FileBinary {
		return nil
	}
	return pair(f.Size)
}

func (f header) short() []byte {
	if f.Short == 0 {
		return nil
	}
	return []byte{byte(f.Short)}
}

func (f header) state() []byte { return []byte{byte(f.State)} }

func (f header) rules() []byte {
	b, _ := access.Encode(f.Rules)
	return b
}

// pair returns a number of a valid header as two bytes.
func pair(n int) []byte {
	b, _ := octets.Put(n, pairBytes)
	return b
}

// part is a part of the file control parameters: how many bytes its value can have, any number if nothing is said; whether it is always there; and the method that writes it.
type part struct {
	tag    int
	widths []int
	always bool
	write  func(header) []byte
}

// parts returns the parts in their order.
func parts() []part {
	return []part{
		{tagKind, []int{kindBytes, recordBytes}, true, header.kind},
		{tagID, []int{pairBytes}, true, header.id},
		{tagName, nil, false, header.name},
		{tagSize, []int{pairBytes}, false, header.size},
		{tagShort, []int{1}, false, header.short},
		{tagState, []int{1}, true, header.state},
		{tagRules, nil, false, header.rules},
	}
}

// is reports whether a data object can be this part.
func (p part) is(o api.TLV) bool {
	return o.Tag == p.tag && (p.widths == nil || slices.Contains(p.widths, len(o.Value)))
}

// Encode returns the file control parameters of a header.
func Encode(f api.File) ([]byte, api.Errno) {
	if e := Check(f); e != api.OK {
		return nil, e
	}
	whole := api.TLV{Tag: tagHeader}
	for _, p := range parts() {
		if b := p.write(header(f)); len(b) > 0 {
			whole.Kids = append(whole.Kids, api.TLV{Tag: p.tag, Value: b})
		}
	}
	return tlv.Encode([]api.TLV{whole})
}

// Decode returns the header with the given file control parameters.
func Decode(b []byte) (api.File, api.Errno) {
	l, e := tlv.Decode(b)
	if e != api.OK {
		return api.File{}, e
	}
	if len(l) != 1 || l[0].Tag != tagHeader {
		return api.File{}, api.ErrForm
	}
	values, ok := valuesOf(l[0].Kids)
	if !ok {
		return api.File{}, api.ErrForm
	}
	f, e := read(values)
	if e != api.OK {
		return api.File{}, e
	}
	again, e := Encode(f)
	switch {
	case e != api.OK:
		return api.File{}, e
	case !bytes.Equal(again, b): // with a part that this header does not have, or an empty one
		return api.File{}, api.ErrForm
	}
	return f, api.OK
}

// valuesOf returns the values of the parts of which data objects consist, by their tags; false if these are not parts in their order, or if one of those that are always there is missing.
func valuesOf(objects []api.TLV) (map[int][]byte, bool) {
	values := map[int][]byte{}
	for _, p := range parts() {
		switch {
		case len(objects) > 0 && p.is(objects[0]):
			values[p.tag] = objects[0].Value
			objects = objects[1:]
		case p.always:
			return nil, false
		}
	}
	return values, len(objects) == 0
}

// read returns the header, which need not be valid, that the values of parts describe.
func read(values map[int][]byte) (api.File, api.Errno) {
	rules, e := access.Decode(values[tagRules])
	if e != api.OK {
		return api.File{}, e
	}
	kind := values[tagKind]
	f := api.File{
		ID:    number(values[tagID]),
		Kind:  int(kind[0]),
		Name:  values[tagName],
		Short: number(values[tagShort]),
		Size:  number(values[tagSize]),
		State: number(values[tagState]),
		Rules: rules,
	}
	if len(kind) == recordBytes {
		f.Length, f.Records = int(kind[1]), int(kind[2])
	}
	return f, api.OK
}

// number returns the number that the value of a part denotes, 0 if it is not there.
func number(b []byte) int {
	n, _ := octets.Get(b)
	return n
}
