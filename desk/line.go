package desk

import (
	"adit/api"
	"adit/cidr"
	"adit/text"
	"adit/words"
)

const (
	mostNumber = 1 << 40 // what a number is at most
	keySize    = 32      // bytes of a secret and of a draw
)

// line is a line that was read: its first word, and what stands behind it. What its kind has not is the zero value.
type line struct {
	verb    string
	number  int64
	command string
	key     [keySize]byte
	bytes   []byte
	end     api.End
	on      bool
}

// reader reads a line's words, one behind the other. What is wrong with one sticks, and what is read then is thrown away.
type reader struct {
	rest  []string
	wrong bool
}

// read reads a line; is it one?
func read(s string) (line, bool) {
	row, e := text.Words(s)
	r := &reader{rest: row}
	// Words may stand with more than one blank between, or around them.
	r.ask(e == api.OK && joined(" ", row...) == s)
	l := line{verb: r.word()}
	switch l.verb {
	case "open", "sessions":
	case "close", "pick", "tick", "stat":
		l.number = r.number()
	case "new":
		l.key, l.number = r.key(), r.number()
	case "say":
		l.number, l.command = r.number(), r.all()
	case "tun":
		l.bytes = r.bytes()
	case "udp":
		l.end, l.bytes = r.end(), r.bytes()
	case "draw":
		l.key = r.key()
	case "load":
		l.on = r.on()
	default:
		r.ask(false)
	}
	r.ask(len(r.rest) == 0)
	return l, !r.wrong
}

// ask tells the reader that something is wrong, unless it is right.
func (r *reader) ask(right bool) { r.wrong = r.wrong || !right }

// word is the next word.
func (r *reader) word() string {
	if len(r.rest) == 0 {
		r.ask(false)
		return ""
	}
	w := r.rest[0]
	r.rest = r.rest[1:]
	return w
}

// all is all words that are left, one at least, with blanks between.
func (r *reader) all() string {
	r.ask(len(r.rest) > 0)
	s := joined(" ", r.rest...)
	r.rest = nil
	return s
}

// number is the next word's number.
func (r *reader) number() int64 {
	n, e := text.ReadNumber(r.word(), mostNumber)
	r.ask(e == api.OK)
	return int64(n)
}

// bytes is the next word's bytes.
func (r *reader) bytes() []byte {
	w := r.word()
	b, fault := words.Unhex(w)
	// Large letters are digits, too, but not of a line.
	r.ask(fault.Code == api.OK && words.Hex(b) == w)
	return b
}

// key is the next word's bytes, as many as a key has.
func (r *reader) key() [keySize]byte {
	b := r.bytes()
	r.ask(len(b) == keySize)
	var out [keySize]byte
	copy(out[:], b)
	return out
}

// end is the end of which the next word is the text.
func (r *reader) end() api.End {
	w := r.word()
	end, e := cidr.ParseEnd(w)
	// Other words are read as an end, too, but are not its text.
	told, _ := cidr.PrintEnd(end)
	r.ask(e == api.OK && told == w)
	return end
}

// on tells whether the next word is on; else it is off.
func (r *reader) on() bool {
	w := r.word()
	r.ask(w == "on" || w == "off")
	return w == "on"
}
