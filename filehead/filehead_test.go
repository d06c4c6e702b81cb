package filehead_test

import (
	"bytes"
	"cmp"
	"math"
	"math/rand/v2"
	"slices"
	"testing"

	"smartcard/access"
	"smartcard/api"
	"smartcard/filehead"
)

var (
	always = api.Cond{Op: api.CondAlways}
	anyone = api.Rule{Ops: api.OpRead, Cond: always}
	holder = api.Rule{Ops: api.OpUpdate | api.OpAppend, Cond: api.Cond{Op: api.CondAnd, Kids: []api.Cond{{Op: api.CondPin, N: 1}, {Op: api.CondLevel, N: 3}}}}
	wrong  = api.Rule{Ops: 0, Cond: always}

	// wide is a rule whose condition has as many nodes as one may have.
	wide = api.Rule{Ops: api.OpAll, Cond: api.Cond{Op: api.CondOr, Kids: slices.Repeat([]api.Cond{{Op: api.CondKey, N: 8}}, 15)}}
)

// samples are headers that are valid.
var samples = []api.File{
	{ID: 0x2f01, Kind: api.FileBinary, Short: 1, Size: 32, State: api.FileActive},
	{ID: 0x3f00, Kind: api.FileDF, State: api.FileActive, Rules: []api.Rule{{Ops: api.OpCreate, Cond: always}}},
	{ID: 1, Kind: api.FileDF, State: api.FileInactive},
	{ID: 0xfffe, Kind: api.FileDF, Name: []byte{0}, State: api.FileEnded, Rules: []api.Rule{anyone, holder}},
	{ID: 0x3ffe, Kind: api.FileDF, Name: []byte("0123456789abcdef"), State: api.FileActive, Rules: slices.Repeat([]api.Rule{wide}, 8)},
	{ID: 0x4000, Kind: api.FileBinary, Size: 1, State: api.FileActive},
	{ID: 0x0102, Kind: api.FileBinary, Short: 30, Size: 1024, State: api.FileEnded, Rules: []api.Rule{holder}},
	{ID: 0xffff - 1, Kind: api.FileLinear, Length: 1, Records: 1, State: api.FileActive},
	{ID: 0x6f01, Kind: api.FileLinear, Short: 2, Length: 254, Records: 4, State: api.FileInactive, Rules: []api.Rule{anyone}},
	{ID: 0x6f02, Kind: api.FileVariable, Short: 3, Length: 4, Records: 254, State: api.FileActive, Rules: []api.Rule{wide}},
	{ID: 0x6f03, Kind: api.FileCyclic, Length: 32, Records: 32, State: api.FileActive, Rules: []api.Rule{anyone, anyone}},
	{ID: 0x0100, Kind: api.FileCyclic, Short: 15, Length: 254, Records: 1, State: api.FileEnded},
}

// defect makes a header invalid.
type defect struct {
	what string
	kind int // of the headers to which it belongs, 0 for all
	make func(f *api.File)
	e    api.Errno
}

// defects are in the order in which they are reported. None of them removes an earlier one.
var defects = [][]defect{
	{
		{"the kind 0", 0, func(f *api.File) { f.Kind = 0 }, api.ErrArg},
		{"the kind 6", 0, func(f *api.File) { f.Kind = 6 }, api.ErrArg},
		{"the kind -1", 0, func(f *api.File) { f.Kind = -1 }, api.ErrArg},
		{"the kind 257", 0, func(f *api.File) { f.Kind = 257 }, api.ErrArg},
	}, {
		{"the identifier 0", 0, func(f *api.File) { f.ID = 0 }, api.ErrRange},
		{"the identifier -1", 0, func(f *api.File) { f.ID = -1 }, api.ErrRange},
		{"the identifier 3fff", 0, func(f *api.File) { f.ID = 0x3fff }, api.ErrRange},
		{"the identifier ffff", 0, func(f *api.File) { f.ID = 0xffff }, api.ErrRange},
		{"the identifier 10001", 0, func(f *api.File) { f.ID = 0x10001 }, api.ErrRange},
		{"the least identifier", 0, func(f *api.File) { f.ID = math.MinInt }, api.ErrRange},
	}, {
		{"a long name", 0, func(f *api.File) { f.Name = make([]byte, 17) }, api.ErrLong},
	}, {
		{"a name of a transparent file", api.FileBinary, named, api.ErrForm},
		{"a name of a linear file", api.FileLinear, named, api.ErrForm},
		{"a name of a variable file", api.FileVariable, named, api.ErrForm},
		{"a name of a cyclic file", api.FileCyclic, named, api.ErrForm},
	}, {
		{"the short identifier 31", 0, func(f *api.File) { f.Short = 31 }, api.ErrRange},
		{"the short identifier -1", 0, func(f *api.File) { f.Short = -1 }, api.ErrRange},
		{"the greatest short identifier", 0, func(f *api.File) { f.Short = math.MaxInt }, api.ErrRange},
	}, {
		{"a short identifier of a directory", api.FileDF, func(f *api.File) { f.Short = cmp.Or(f.Short, 1) }, api.ErrForm},
	}, {
		{"a size of a directory", api.FileDF, func(f *api.File) { f.Size = 1 }, api.ErrForm},
		{"a negative size of a linear file", api.FileLinear, func(f *api.File) { f.Size = -1 }, api.ErrForm},
		{"a size of a variable file", api.FileVariable, func(f *api.File) { f.Size = 5000 }, api.ErrForm},
		{"a size of a cyclic file", api.FileCyclic, func(f *api.File) { f.Size = 32 }, api.ErrForm},
		{"the size 0", api.FileBinary, func(f *api.File) { f.Size = 0 }, api.ErrRange},
		{"the size -1", api.FileBinary, func(f *api.File) { f.Size = -1 }, api.ErrRange},
		{"the size 1025", api.FileBinary, func(f *api.File) { f.Size = 1025 }, api.ErrRange},
	}, {
		{"a length of a directory", api.FileDF, func(f *api.File) { f.Length = 1 }, api.ErrForm},
		{"a length of a transparent file", api.FileBinary, func(f *api.File) { f.Length = -5 }, api.ErrForm},
		{"the length 0", api.FileLinear, func(f *api.File) { f.Length = 0 }, api.ErrRange},
		{"the length 255", api.FileVariable, func(f *api.File) { f.Length = 255 }, api.ErrRange},
		{"the length -1", api.FileCyclic, func(f *api.File) { f.Length = -1 }, api.ErrRange},
	}, {
		{"records of a directory", api.FileDF, func(f *api.File) { f.Records = 1 }, api.ErrForm},
		{"records of a transparent file", api.FileBinary, func(f *api.File) { f.Records = 1000 }, api.ErrForm},
		{"no records", api.FileLinear, func(f *api.File) { f.Records = 0 }, api.ErrRange},
		{"255 records", api.FileVariable, func(f *api.File) { f.Records = 255 }, api.ErrRange},
		{"the greatest number of records", api.FileCyclic, func(f *api.File) { f.Records = math.MaxInt }, api.ErrRange},
	}, {
		{"5 * 205 bytes", api.FileLinear, func(f *api.File) { large(f, 5, 205) }, api.ErrLong},
		{"254 * 5 bytes", api.FileVariable, func(f *api.File) { large(f, 254, 5) }, api.ErrLong},
		{"254 * 254 bytes", api.FileCyclic, func(f *api.File) { large(f, 254, 254) }, api.ErrLong},
	}, {
		{"the state 0", 0, func(f *api.File) { f.State = 0 }, api.ErrRange},
		{"the state 4", 0, func(f *api.File) { f.State = 4 }, api.ErrRange},
		{"the state -1", 0, func(f *api.File) { f.State = -1 }, api.ErrRange},
	}, {
		{"9 rules", 0, func(f *api.File) { f.Rules = slices.Repeat([]api.Rule{wrong}, 9) }, api.ErrLong},
		{"a wrong rule", 0, func(f *api.File) { f.Rules = []api.Rule{anyone, wrong} }, api.ErrArg},
	},
}

// named gives a name to a file that has none.
func named(f *api.File) {
	if len(f.Name) == 0 {
		f.Name = []byte{1}
	}
}

// large gives records to a file, except for those numbers that are wrong already.
func large(f *api.File, length, records int) {
	if f.Length > 0 && f.Length < 255 {
		f.Length = length
	}
	if f.Records > 0 && f.Records < 255 {
		f.Records = records
	}
}

// P15.1

func TestCheck(t *testing.T) {
	for _, f := range samples {
		if e := filehead.Check(f); e != api.OK {
			t.Errorf("Check of %v returns %d", f, e)
		}
	}
}

// TestErrorsOfCheck makes each header invalid in one way, and in two: then the first of them is reported.
func TestErrorsOfCheck(t *testing.T) {
	count := 0
	for _, f := range samples {
		for i, first := range defects {
			for _, a := range first {
				if a.kind != 0 && a.kind != f.Kind {
					continue
				}
				x := f
				a.make(&x)
				expectCheck(t, x, a.e, a.what)
				if i == 0 { // what belongs to a kind is no defect of others
					continue
				}
				for _, second := range defects[i+1:] {
					for _, b := range second {
						if b.kind == 0 || b.kind == f.Kind {
							y := x
							b.make(&y)
							expectCheck(t, y, a.e, a.what+", and "+b.what)
							count++
						}
					}
				}
			}
		}
	}
	if count < 1000 {
		t.Error(count)
	}
}

func expectCheck(t *testing.T, f api.File, want api.Errno, what string) {
	t.Helper()
	if e := filehead.Check(f); e != want {
		t.Errorf("Check with %s returns %d and not %d: %v", what, e, want, f)
	}
}

func TestKindComesFirst(t *testing.T) {
	f := api.File{ID: -1, Kind: 9, Name: make([]byte, 99), Short: -1, Size: -1, Length: -1, Records: -1, State: -1, Rules: []api.Rule{wrong}}
	expectCheck(t, f, api.ErrArg, "an unknown kind")
	expectCheck(t, api.File{}, api.ErrArg, "nothing")
}

func TestCheckOfIdentifiers(t *testing.T) {
	for id := -10; id <= 0x10010; id++ {
		want := api.OK
		if id < 1 || id > 0xfffe || id == 0x3fff {
			want = api.ErrRange
		}
		for _, f := range []api.File{samples[0], samples[2]} {
			f.ID = id
			expectCheck(t, f, want, "an identifier")
		}
	}
}

func TestCheckOfRecords(t *testing.T) {
	for kind := api.FileLinear; kind <= api.FileCyclic; kind++ {
		for length := -1; length <= 260; length++ {
			for records := -1; records <= 260; records++ {
				want := api.OK
				switch {
				case length < 1 || length > 254 || records < 1 || records > 254:
					want = api.ErrRange
				case length*records > 1024:
					want = api.ErrLong
				}
				f := api.File{ID: 5, Kind: kind, Length: length, Records: records, State: api.FileActive}
				if e := filehead.Check(f); e != want {
					t.Fatal(kind, length, records, e)
				}
			}
		}
	}
	f := api.File{ID: 5, Kind: api.FileLinear, Length: math.MaxInt, Records: 2, State: api.FileActive}
	expectCheck(t, f, api.ErrRange, "a product that is too great to be computed")
}

// TestCheckOfRules compares the errors of rules with those of access.CheckRules.
func TestCheckOfRules(t *testing.T) {
	long := api.Cond{Op: api.CondOr, Kids: slices.Repeat([]api.Cond{always}, 16)}
	for _, l := range [][]api.Rule{
		nil, {}, {anyone}, {wrong}, {anyone, {Ops: 256, Cond: always}}, {{Ops: 1, Cond: long}}, {{Ops: 1, Cond: long}, wrong}, {wrong, {Ops: 1, Cond: long}},
		slices.Repeat([]api.Rule{anyone}, 8), slices.Repeat([]api.Rule{anyone}, 9), {{Ops: 1, Cond: api.Cond{Op: api.CondPin}}},
	} {
		for _, f := range samples {
			f.Rules = l
			expectCheck(t, f, access.CheckRules(l), "rules")
		}
	}
}

// P15.4

func TestNext(t *testing.T) {
	after := map[[2]int]int{
		{api.FileInactive, api.OpActivate}:  api.FileActive,
		{api.FileActive, api.OpDeactivate}:  api.FileInactive,
		{api.FileActive, api.OpTerminate}:   api.FileEnded,
		{api.FileInactive, api.OpTerminate}: api.FileEnded,
	}
	states := []int{math.MinInt, math.MaxInt}
	for n := -3; n <= 8; n++ {
		states = append(states, n)
	}
	ops := []int{math.MinInt, math.MaxInt, 1 << 32}
	for n := -3; n <= 520; n++ {
		ops = append(ops, n)
	}
	for _, state := range states {
		for _, op := range ops {
			next, want := after[[2]int{state, op}], api.OK
			switch {
			case op != 32 && op != 64 && op != 128:
				want = api.ErrArg
			case state < 1 || state > 3:
				want = api.ErrRange
			case next == 0:
				want = api.ErrState
			}
			if got, e := filehead.Next(state, op); got != next || e != want {
				t.Errorf("Next of %d and %d returns %d and %d", state, op, got, e)
			}
		}
	}
}

// P15.5

func TestBytes(t *testing.T) {
	for i, want := range []int{32, 0, 0, 0, 0, 1, 1024, 1, 1016, 1016, 1024, 254} {
		f := samples[i]
		if n := filehead.Bytes(f); n != want {
			t.Errorf("Bytes of %v returns %d", f, n)
		}
		for _, l := range defects {
			for _, d := range l {
				if x := f; d.kind == 0 || d.kind == f.Kind {
					if d.make(&x); filehead.Bytes(x) != 0 {
						t.Error("Bytes with", d.what, "returns", filehead.Bytes(x))
					}
				}
			}
		}
	}
}

// P15.6

// variants are headers, valid or not, which differ from the given one in one field each.
func variants(f api.File) []api.File {
	l := slices.Repeat([]api.File{f}, 12)
	l[0].ID++
	l[1].Kind = -f.Kind
	l[2].Short--
	l[3].Size += 1 << 40
	l[4].Length++
	l[5].Records--
	l[6].State ^= 8
	l[7].Name = append(slices.Clone(f.Name), 0)
	l[8].Name = append([]byte{9}, f.Name...)
	l[9].Rules = append(slices.Clone(f.Rules), wrong)
	l[10].Rules = append([]api.Rule{anyone, wrong}, f.Rules...)
	l[11].Rules = []api.Rule{{Cond: api.Cond{Op: -1, Kids: []api.Cond{always}}}}
	return l
}

func TestSame(t *testing.T) {
	l := slices.Clone(samples)
	for _, f := range samples {
		l = append(l, variants(f)...)
	}
	for i, a := range l {
		for k, b := range l {
			b.Name, b.Rules = slices.Clone(b.Name), slices.Clone(b.Rules)
			if filehead.Same(a, b) != (i == k || equal(a, b)) {
				t.Error(a, b)
			}
		}
	}
	for _, f := range samples {
		for i, v := range variants(f) {
			if filehead.Same(f, v) || filehead.Same(v, f) || !filehead.Same(v, v) {
				t.Error("the variant", i, "of", f)
			}
		}
	}
	if !filehead.Same(api.File{}, api.File{Name: []byte{}, Rules: []api.Rule{}}) {
		t.Error("empty names and rules")
	}
}

// equal compares two headers independently of the package's own Same.
func equal(a, b api.File) bool {
	if !bytes.Equal(a.Name, b.Name) || !slices.EqualFunc(a.Rules, b.Rules, func(x, y api.Rule) bool { return x.Ops == y.Ops && equalConds(x.Cond, y.Cond) }) {
		return false
	}
	return a.ID == b.ID && a.Kind == b.Kind && a.Short == b.Short && a.Size == b.Size && a.Length == b.Length && a.Records == b.Records && a.State == b.State
}

func equalConds(a, b api.Cond) bool {
	return a.Op == b.Op && a.N == b.N && slices.EqualFunc(a.Kids, b.Kids, equalConds)
}

// random returns a header that is valid.
func random(r *rand.Rand) api.File {
	f := samples[r.IntN(len(samples))]
	f.State = 1 + r.IntN(3)
	if f.ID = 1 + r.IntN(0xfffe); f.ID == 0x3fff {
		f.ID--
	}
	switch f.Kind {
	case api.FileDF:
		f.Name = make([]byte, r.IntN(17))
		for i := range f.Name {
			f.Name[i] = byte(r.IntN(256))
		}
	case api.FileBinary:
		f.Short, f.Size = r.IntN(31), 1+r.IntN(1024)
	default:
		f.Kind, f.Short = api.FileLinear+r.IntN(3), r.IntN(31)
		f.Length = 1 + r.IntN(254)
		f.Records = 1 + r.IntN(min(254, 1024/f.Length))
	}
	f.Rules = nil
	for range r.IntN(9) {
		f.Rules = append(f.Rules, []api.Rule{anyone, holder, wide, {Ops: 1 + r.IntN(255), Cond: api.Cond{Op: api.CondPin, N: 1 + r.IntN(8)}}}[r.IntN(4)])
	}
	return f
}
