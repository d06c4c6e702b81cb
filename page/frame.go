package page

import (
	"iter"

	"smartcard/api"
	"smartcard/ecc"
)

// A frame is its head, which is the words mark, high and low, and its body. The mark is one more than the number of the page, or void.
const (
	mark       = iota
	high       // the turn, divided by turnUnit
	low        // the rest of the turn
	headWords  // the first word of the body
	frameWords = headWords + bodyWords

	bodyWords = api.PageBytes / 3
	turnUnit  = 1 << 24 // what a word can tell apart

	void    = 0        // the mark of a frame that was never written, or not completely
	nowhere = void - 1 // the frame of a page that was never written, and the page of a frame that is void
)

// patience is the number of turns that a page may stay in its frame, for each frame of the memory. The smaller it is, the more evenly words wear out, but the more pages are moved.
const patience = 4

// frame is the head of a frame: the page that it held last, or nowhere if the mark is void, and its turn.
type frame struct {
	page, turn int
}

// load finds the frames of all pages in the memory.
func (p *Pages) load() api.Errno {
	frames := make([]frame, p.m.Words()/frameWords)
	homes := make([]int, p.m.Words()/pageWords)
	for i := range homes {
		homes[i] = nowhere
	}
	turn := 0
	for f := range frames {
		x, e := p.head(f)
		switch {
		case e != api.OK:
			return e
		case x.page >= len(homes):
			return api.ErrCorrupt
		}
		frames[f] = x
		turn = max(turn, x.turn)
		if x.page != nowhere && (homes[x.page] == nowhere || frames[homes[x.page]].turn < x.turn) {
			homes[x.page] = f
		}
	}
	p.frames, p.homes, p.turn, p.writes = frames, homes, turn, p.m.Writes()
	return api.OK
}

// head reads the head of a frame.
func (p *Pages) head(f int) (frame, api.Errno) {
	var data [headWords]int
	for n := range data {
		w, e := p.m.Read(f*frameWords + n)
		if e != api.OK {
			return frame{}, e
		}
		x, state := ecc.Decode(w)
		switch state {
		case api.WordBad:
			return frame{}, api.ErrCorrupt
		case api.WordFixed:
			p.fixed++
		}
		data[n] = x
	}
	return frame{page: data[mark] - 1, turn: data[high]*turnUnit + data[low]}, api.OK
}

// body reads the bytes of a frame.
func (p *Pages) body(f int) ([]byte, api.Errno) {
	words := make([]uint32, bodyWords)
	for n := range words {
		w, e := p.m.Read(f*frameWords + headWords + n)
		if e != api.OK {
			return nil, e
		}
		words[n] = w
	}
	b, fixed, e := ecc.Unpack(words, api.PageBytes)
	p.fixed += fixed
	return b, e
}

// visit visits the frames in which pages lie, or those that are free.
func (p *Pages) visit(free bool) iter.Seq[int] {
	return func(yield func(int) bool) {
		for f, x := range p.frames {
			isFree := x.page == nowhere || p.homes[x.page] != f
			if isFree == free && !yield(f) {
				return
			}
		}
	}
}

// earliest returns the frame of the earliest turn among those that are visited, of which there has to be one.
func (p *Pages) earliest(l iter.Seq[int]) int {
	first := nowhere
	for f := range l {
		if first == nowhere || p.frames[f].turn < p.frames[first].turn {
			first = f
		}
	}
	return first
}

// put writes a page into the free frame of the earliest turn. The word that makes it the frame of the page is the last one.
func (p *Pages) put(i int, b []byte) api.Errno {
	f, turn := p.earliest(p.visit(true)), p.turn+1
	if e := p.reserve(f, turn); e != api.OK {
		return e
	}
	for n, w := range ecc.Pack(b) {
		if e := p.m.Write(f*frameWords+headWords+n, w); e != api.OK {
			return e
		}
	}
	if e := p.m.Write(f*frameWords+mark, codeWord(i+1)); e != api.OK {
		return e
	}
	p.frames[f], p.homes[i] = frame{i, turn}, f
	p.turn, p.writes = turn, p.m.Writes()
	return api.OK
}

// reserve gives a turn to a free frame, and before that takes from it what it held. If the power is cut from then on, other frames take their turns before this one, so that no frame wears out by writes that are never completed; if it is cut earlier, the words that have been written are not written once more.
func (p *Pages) reserve(f, turn int) api.Errno {
	for n, data := range [headWords]int{mark: void, high: turn / turnUnit, low: turn % turnUnit} {
		a, w := f*frameWords+n, codeWord(data)
		old, e := p.m.Read(a)
		if e == api.OK && old != w {
			e = p.m.Write(a, w)
		}
		if e != api.OK {
			return e
		}
	}
	return api.OK
}

// codeWord returns the word for data that fit into one.
func codeWord(data int) uint32 {
	w, _ := ecc.Encode(data)
	return w
}

// moveEarliest moves the page that has stayed in its frame for the longest time, if that was longer than patience permits. A page that cannot be read stays where it is until it is written.
func (p *Pages) moveEarliest() api.Errno {
	f := p.earliest(p.visit(false))
	if p.turn-p.frames[f].turn <= patience*len(p.frames) {
		return api.OK
	}
	b, e := p.body(f)
	switch e {
	case api.OK:
		return p.put(p.frames[f].page, b)
	case api.ErrCorrupt:
		return api.OK
	}
	return e
}
