package code_test

import (
	"math/big"
	"math/rand/v2"
	"regexp"
	"slices"
	"strconv"
	"strings"
	"testing"

	"smartcard/api"
	"smartcard/code"
)

// P27.4

// every has an instruction of each Op, and everyText its lines.
var every = []api.Instr{
	{}, {Op: 1, A: -2147483648}, {Op: 2}, {Op: 3, A: 15}, {Op: 4}, {Op: 5, A: 3, B: -128}, {Op: 6}, {Op: 7}, {Op: 8},
	{Op: 9}, {Op: 10}, {Op: 11}, {Op: 12}, {Op: 13}, {Op: 14}, {Op: 15}, {Op: 16}, {Op: 17}, {Op: 18}, {Op: 19}, {Op: 20},
	{Op: 21, A: 255}, {Op: 22}, {Op: 23, A: 1}, {Op: 24, A: 2}, {Op: 25, A: 3}, {Op: 26, A: 4}, {Op: 27, A: 5}, {Op: 28, A: 6}, {Op: 29, A: 7}, {Op: 30, A: 8}, {Op: 31, A: 9}, {Op: 32, A: 10},
	{Op: 33, A: 255, B: 1}, {Op: 34, A: 2}, {Op: 34, A: 3}, {Op: 34, A: 4}, {Op: 35}, {Op: 36}, {Op: 37}, {Op: 38}, {Op: 39}, {Op: 40}, {Op: 41},
	{Op: 42, A: 255, B: 0, C: 2}, {Op: 43, A: 4, B: 31, C: 15}, {Op: 44, A: 255}, {Op: 45}, {Op: 46, A: 1, B: 7}, {Op: 47, B: 3, C: 9}, {Op: 48, A: 255, B: 1, C: 3},
	{Op: 49}, {Op: 50}, {Op: 51, A: 2, B: 10}, {Op: 52, A: 255}, {Op: 53, A: 14},
}

const everyText = `nop
push -2147483648
null
load 15
store 0
inc 3 -128
pop
dup
swap
add
sub
mul
div
rem
neg
and
or
xor
shl
shr
ushr
goto 255
ifzero 0
ifnot 1
ifneg 2
ifeq 3
ifne 4
iflt 5
ifge 6
ifnull 7
ifsome 8
ifsame 9
ifother 10
new system.1
array bytes
array ints
array refs
length
getbyte
putbyte
getint
putint
getref
putref
getfield system.0 2
putfield 4.31 15
getstatic 255
putstatic 0
call 1.7
virtual 0.3 9
invoke system.1 3
return
throw
cast 2.10
is system.0
native 14
`

func TestText(t *testing.T) {
	if s := code.Text(every); s != everyText {
		t.Errorf("Text returns %s", s)
	}
	if s := code.Text(nil); s != "" {
		t.Error(s)
	}
	if s := code.Text([]api.Instr{{Op: api.InsLoad}, {Op: api.InsPush, A: 1}, {Op: api.InsAdd}, {Op: api.InsReturn}}); s != "load 0\npush 1\nadd\nreturn\n" {
		t.Error(s)
	}
	if s := code.Text(make([]api.Instr, 256)); s != strings.Repeat("nop\n", 256) {
		t.Error(s)
	}
	for _, l := range [][]api.Instr{make([]api.Instr, 257), {{Op: 54}}, {{Op: -1}}, {{}, {Op: api.InsLoad, A: 16}}, {{Op: api.InsNop, C: 1}, {}}} {
		expectEncodeError(t, l, mustFail(l))
	}
}

// mustFail returns the error of Encode.
func mustFail(l []api.Instr) api.Errno {
	if len(l) > 256 {
		return api.ErrLong
	}
	for _, i := range l {
		if e := wanted(i); e != api.OK {
			return e
		}
	}
	return api.OK
}

// lineOf is the line of an instruction that is valid.
func lineOf(i api.Instr) string {
	s := rows[i.Op].name
	l := []int{i.A, i.B, i.C}
	for k, letter := range rows[i.Op].letters {
		between := " "
		if letter == 'c' || letter == 'm' {
			between = "."
		}
		word := strconv.Itoa(l[k])
		if letter == 'p' && l[k] == 255 {
			word = "system"
		}
		if letter == 't' {
			word = []string{2: "bytes", 3: "ints", 4: "refs"}[l[k]]
		}
		s += between + word
	}
	return s + "\n"
}

func TestTextOfEachInstruction(t *testing.T) {
	for _, i := range all() {
		s := lineOf(i)
		if x := code.Text([]api.Instr{i}); x != s {
			t.Fatalf("Text of %v returns %q and not %q", i, x, s)
		}
		expectParsed(t, s, []api.Instr{i})
	}
}

// P27.5

func TestParse(t *testing.T) {
	expectParsed(t, "", nil)
	expectParsed(t, everyText, every)
	expectParsed(t, "push -2\n", []api.Instr{{Op: api.InsPush, A: -2}})
	expectParsed(t, "push 0\npush 2147483647\ninc 0 0\n", []api.Instr{{Op: api.InsPush}, {Op: api.InsPush, A: 2147483647}, {Op: api.InsInc}})
	expectParsed(t, strings.Repeat("nop\n", 256), make([]api.Instr, 256))
}

func TestParseOfWrongForms(t *testing.T) {
	for _, line := range []string{
		"", " ", "Nop", "nope", "no", " nop", "nop ", "nop 0", "nop\t", "nop\r", "nop.", ".nop", "nop.0", "nop nop", "push", "push ", "push  1", "push 1 ", " push 1", "push\t1", "push 1 2", "push 1.2", "push.1",
		"push 01", "push 00", "push -0", "push -01", "push --1", "push -", "push +1", "push 0x1", "push 1e2", "push 1_0", "push a", "push 1a", "push a1", "push 1-", "push 1-1", "push ٣", "push 99999999999999999999x", "push 9999999999 1", "push 2147483648.",
		"load 01", "load system", "load bytes", "load 99 1", "goto x", "goto -0", "inc 1", "inc 1 ", "inc 1 2 3", "inc 1.2", "inc  1 2", "inc 1  2", "inc 16 02",
		"array", "array 2", "array 1", "array byte", "array Bytes", "array bytes ", "array bytes ints", "array -1", "array int", "array void", "array  bytes",
		"new", "new 1", "new 1.", "new .1", "new .", "new 1 2", "new 1 .2", "new 1. 2", "new 1.2 3", "new 1.2.3", "new 1,2", "new 255.0", "new 255.99", "new 255.", "new System.0", "new system", "new system 0", "new system.", "new system.system", "new systems.0", "new 1.system", "new 01.2", "new 1.02", "new 1.-0", "new -0.1",
		"getfield 1.2", "getfield 1.2.3", "getfield 1 2 3", "getfield 1.2 ", "getfield 1.2  3", "getfield 255.0 1", "getfield 1.2 3 4", "getfield 1.2 03", "getfield 9.99 x", "getfield 1 2.3", "putfield system.0", "virtual 255.1 2", "invoke 255.1 2", "cast 255.1", "is 255.1", "is 1.1 1",
		"call 1", "call system.1", "call 1 7", "call 1.7 0", "call 1.7.0", "call 1.", "call .7", "call 01.7", "call -0.7", "call 255.07", "call 9.system", "getstatic system", "getstatic 1.1", "native begin", "native", "native 014",
		"return 0", "throw 1", "nop\x00", "\xff", "\ufeffnop", "nop # comment", "push 1 # one", "push ’1’",
	} {
		expectParseError(t, line+"\n", api.ErrSyntax)
		expectParseError(t, "nop\n"+line+"\nload 99\n", api.ErrSyntax)
		expectParseError(t, "load 99\n"+line+"\n", api.ErrRange)
	}
}

func TestParseOfWrongNumbers(t *testing.T) {
	for _, line := range []string{
		"load 99", "load 16", "load -1", "store 16", "push 2147483648", "push -2147483649", "push 4294967295", "push 4294967296", "push 18446744073709551616", "push -99999999999999999999999999", "push " + strings.Repeat("9", 5000),
		"load 4294967296", "load 4294967297", "inc 16 0", "inc 0 128", "inc 0 -129", "inc 0 4294967297", "inc 99999999999 1", "goto 256", "goto -1", "ifother 256",
		"new 5.0", "new 0.32", "new system.2", "new system.-1", "new -1.0", "new -255.0", "new 254.0", "new 256.0", "new 2550.0", "new 4294967551.0", "new 5.99999999999", "new 4294967296.4294967296", "cast 1.32", "is 256.1",
		"getfield 0.0 16", "getfield 5.0 0", "getfield system.2 0", "putfield 0.0 -1", "getstatic 256", "putstatic -1", "call 5.0", "call 255.0", "call 255.99", "call 0.64", "call -1.0", "call 99999999999.0", "virtual 0.0 16", "invoke 0.32 0", "native 15", "native -1",
	} {
		expectParseError(t, line+"\n", api.ErrRange)
		expectParseError(t, "nop\n"+line+"\nx\n", api.ErrRange)
		expectParseError(t, "x\n"+line+"\n", api.ErrSyntax)
		expectParseError(t, line, api.ErrSyntax) // the line feed comes first
		expectParseError(t, line+" \n", api.ErrSyntax)
	}
}

func TestParseOfEnds(t *testing.T) {
	full := strings.Repeat("nop\n", 256)
	for _, s := range []string{"nop", "n", "nop\nnop", "push 1", "nop\npush", "\nnop\n", "\n", "nop\n\n", "nop\n\nnop\n", "nop\nnop\n ", full[4:] + "nop", full[4:] + "x\n"} {
		expectParseError(t, s, api.ErrSyntax)
	}
	for _, last := range []string{"nop\n", "nop", "\n", "x", "x\n", "load 99\n", " ", full} { // whatever is in a line that is one too many
		expectParseError(t, full+last, api.ErrLong)
	}
	expectParseError(t, "x\n"+full, api.ErrSyntax)
	expectParseError(t, "load 99\n"+full, api.ErrRange)
	expectParseError(t, full[4:]+"load 99\nx\n", api.ErrRange)
	expectParseError(t, "load 99\nnop", api.ErrRange) // the first line has its line feed
	expectParseError(t, strings.Repeat("n", 100000), api.ErrSyntax)
	expectParseError(t, strings.Repeat("\n", 100000), api.ErrSyntax)
}

// patterns returns a regular expression for the lines of each instruction.
func patterns() []*regexp.Regexp {
	var l []*regexp.Regexp
	for _, r := range rows {
		s := "^" + r.name
		for _, letter := range r.letters {
			switch letter {
			case 'p':
				s += ` (system|0|-?[1-9][0-9]*)`
			case 'c', 'm':
				s += `\.(0|-?[1-9][0-9]*)`
			case 't':
				s += ` (bytes|ints|refs)`
			default:
				s += ` (0|-?[1-9][0-9]*)`
			}
		}
		l = append(l, regexp.MustCompile(s+"$"))
	}
	return l
}

// parsed is what Parse has to return.
func parsed(forms []*regexp.Regexp, s string) ([]api.Instr, api.Errno) {
	var l []api.Instr
	for s != "" {
		if len(l) == 256 {
			return nil, api.ErrLong
		}
		line, rest, whole := strings.Cut(s, "\n")
		if !whole {
			return nil, api.ErrSyntax
		}
		i, e := parsedLine(forms, line)
		if e != api.OK {
			return nil, e
		}
		l, s = append(l, i), rest
	}
	return l, api.OK
}

func parsedLine(forms []*regexp.Regexp, line string) (api.Instr, api.Errno) {
	op := slices.IndexFunc(forms, func(r *regexp.Regexp) bool { return r.MatchString(line) })
	if op < 0 {
		return api.Instr{}, api.ErrSyntax
	}
	i := api.Instr{Op: op}
	great := false
	for k, word := range forms[op].FindStringSubmatch(line)[1:] {
		n := 0
		switch word {
		case "system":
			n = 255
		case "bytes":
			n = 2
		case "ints":
			n = 3
		case "refs":
			n = 4
		default:
			if word == "255" && rows[op].letters[k] == 'p' {
				return api.Instr{}, api.ErrSyntax
			}
			x, _ := new(big.Int).SetString(word, 10)
			if !x.IsInt64() || x.Int64() != int64(int32(x.Int64())) {
				great = true
			} else {
				n = int(x.Int64())
			}
		}
		*[]*int{&i.A, &i.B, &i.C}[k] = n
	}
	if great {
		return api.Instr{}, api.ErrRange
	}
	return i, wanted(i)
}

func TestParseOfRandomTexts(t *testing.T) {
	r := rand.New(rand.NewPCG(27, 5))
	from := all()
	forms := patterns()
	pieces := []string{" ", ".", "\n", "0", "1", "-", "system", "255", "99999999999", "bytes", "nop", "call", "new", "x", "-1", "load ", "refs"}
	counts := map[api.Errno]int{}
	for range 30000 {
		var s string
		for _, i := range some(r, from, 5) {
			s += lineOf(i)
		}
		for range r.IntN(3) {
			at := r.IntN(len(s) + 1)
			end := min(at+r.IntN(4)*r.IntN(2), len(s))
			s = s[:at] + pieces[r.IntN(len(pieces))] + s[end:]
		}
		want, e := parsed(forms, s)
		counts[e]++
		if e != api.OK {
			expectParseError(t, s, e)
			continue
		}
		expectParsed(t, s, want)
		if text := code.Text(want); text != s { // P27.8
			t.Fatalf("Text of Parse of %q is %q", s, text)
		}
	}
	for _, e := range []api.Errno{api.OK, api.ErrSyntax, api.ErrRange} {
		if counts[e] < 300 {
			t.Error(e, counts[e])
		}
	}
}
