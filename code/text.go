package code

import (
	"strconv"
	"strings"

	"smartcard/api"
)

const system = "system" // System, as the package of a class

// names are the names of the instructions, in the order of their numbers.
var names = [api.InsCount]string{
	"nop", "push", "null", "load", "store", "inc", "pop", "dup", "swap",
	"add", "sub", "mul", "div", "rem", "neg", "and", "or", "xor", "shl", "shr", "ushr",
	"goto", "ifzero", "ifnot", "ifneg", "ifeq", "ifne", "iflt", "ifge", "ifnull", "ifsome", "ifsame", "ifother",
	"new", "array", "length", "getbyte", "putbyte", "getint", "putint", "getref", "putref",
	"getfield", "putfield", "getstatic", "putstatic", "call", "virtual", "invoke", "return", "throw", "cast", "is", "native",
}

// elements are the names of the types of arrays, from TypeBytes on.
var elements = [...]string{"bytes", "ints", "refs"}

// Text returns a text with a line for each instruction.
func Text(l []api.Instr) string {
	if _, e := Encode(l); e != api.OK {
		return ""
	}
	var text strings.Builder
	for _, i := range l {
		text.WriteString(names[i.Op])
		n := operandsOf(i)
		for k, form := range formsOf(i.Op) {
			text.WriteString(separator(form) + word(form, n[k]))
		}
		text.WriteString("\n")
	}
	return text.String()
}

// separator returns what precedes an operand of a form in a line.
func separator(form int) string {
	switch form {
	case none:
		return ""
	case class, method:
		return "."
	}
	return " "
}

// word returns an operand of a form as a text.
func word(form, n int) string {
	switch {
	case form == none:
		return ""
	case form == element:
		return elements[n-api.TypeBytes]
	case form == pack && n == api.System:
		return system
	}
	return strconv.Itoa(n)
}

// Parse returns the instructions with the given text.
//
// It is a state machine with three states: at the beginning of a line, at an operand, and at the end of a line.
func Parse(s string) ([]api.Instr, api.Errno) {
	var (
		l        []api.Instr
		text     string // the name, or an operand
		op, k    int
		read     operands
		e, fault api.Errno // the error of the line if all of its words have their forms; that of one word
		ok       bool
	)
line:
	if s == "" {
		return l, api.OK
	}
	if len(l) == api.MaxCode {
		return nil, api.ErrLong
	}
	text, s = cutWord(s)
	if op, ok = opOf(text); !ok {
		goto malformed
	}
	k, read, e = 0, operands{}, api.OK
operand:
	if k == len(read) || formsOf(op)[k] == none {
		goto end
	}
	if s, ok = strings.CutPrefix(s, separator(formsOf(op)[k])); !ok {
		goto malformed
	}
	text, s = cutWord(s)
	read[k], fault = parseWord(formsOf(op)[k], text)
	if fault == api.ErrSyntax {
		goto malformed
	}
	if fault != api.OK {
		e = fault
	}
	k++
	goto operand
end:
	if s, ok = strings.CutPrefix(s, "\n"); !ok {
		goto malformed
	}
	if e == api.OK {
		e = Check(instr(op, read))
	}
	if e != api.OK {
		return nil, e
	}
	l = append(l, instr(op, read))
	goto line
malformed:
	return nil, api.ErrSyntax
}

// cutWord divides a text before the first separator, or end of a line.
func cutWord(s string) (word, rest string) {
	at := strings.IndexAny(s, " .\n")
	if at < 0 {
		at = len(s)
	}
	return s[:at], s[at:]
}

// opOf returns the number of the instructions with a name.
func opOf(name string) (int, bool) {
	for op, x := range names {
		if x == name {
			return op, true
		}
	}
	return 0, false
}

// parseWord returns the operand of a form with the given text: ErrSyntax if the text does not have the form, ErrRange if the number does not fit 32 bits.
func parseWord(form int, s string) (int, api.Errno) {
	switch form {
	case element:
		return parseElement(s)
	case pack:
		if s == system {
			return api.System, api.OK
		}
		if s == strconv.Itoa(api.System) {
			return 0, api.ErrSyntax
		}
	}
	if !isNumber(s) {
		return 0, api.ErrSyntax
	}
	n, err := strconv.ParseInt(s, 10, 32)
	if err != nil {
		return 0, api.ErrRange
	}
	return int(n), api.OK
}

// parseElement returns the type of an array with a name.
func parseElement(name string) (int, api.Errno) {
	for k, x := range elements {
		if x == name {
			return api.TypeBytes + k, api.OK
		}
	}
	return 0, api.ErrSyntax
}

// isNumber reports whether a text is a number, of whatever size.
func isNumber(s string) bool {
	digits := strings.TrimPrefix(s, "-")
	if digits == "" || strings.Trim(digits, "0123456789") != "" {
		return false
	}
	return s == "0" || digits[0] != '0'
}
