package desk_test

import (
	"fmt"
	"math/rand/v2"
	"strings"
	"testing"

	"adit/api"
	"adit/cidr"
	"adit/curve"
	"adit/daemon"
	"adit/desk"
	"adit/plane"
	"adit/text"
	"adit/words"
)

// chance is lines that are made by chance, each with what a daemon that is asked by its own calls tells.
type chance struct {
	t *testing.T
	x *rand.Rand
	d *daemon.Daemon
	// Of what it told to be sent: it comes back, so that it is heard by somebody.
	sent []plane.Out
	line string
}

// tell is what a line tells.
func (c *chance) tell(e api.Errno, row ...string) string {
	if e != api.OK {
		return fmt.Sprintf("err %d", e)
	}
	return strings.Join(append([]string{"ok"}, row...), " ")
}

// outs are the words of what a plane told.
func (c *chance) outs(l []plane.Out) []string {
	var out []string
	for _, x := range l {
		switch x.Kind {
		case plane.Send:
			c.sent = append(c.sent, x)
			end, e := cidr.PrintEnd(x.End)
			if e != api.OK {
				c.t.Fatalf("PrintEnd: %v", e)
			}
			out = append(out, fmt.Sprintf("send=%s/%x", end, x.B))
		case plane.Deliver:
			out = append(out, fmt.Sprintf("deliver=%d/%x", x.Slot, x.B))
		default:
			out = append(out, fmt.Sprintf("drop=%d/%d", x.Slot, x.E))
		}
	}
	return out
}

// edit is an edit's text.
func (c *chance) edit() string {
	k := word(c.x.IntN(4))
	route := fmt.Sprintf("10.%d.0.0/16", c.x.IntN(4))
	switch c.x.IntN(7) {
	case 0, 1:
		return fmt.Sprintf("add %s end=192.0.2.%d:9 route=+%s", k, 1+c.x.IntN(3), route)
	case 2:
		return fmt.Sprintf("alter %s keep=%d", k, c.x.IntN(9))
	case 3:
		return "drop " + k
	case 4:
		return "roll " + k + " " + word(c.x.IntN(6))
	}
	return "move " + route + " " + k
}

// command is a command's text, or perhaps none's.
func (c *chance) command() string {
	switch k := c.x.IntN(12); {
	case k < 5:
		s := c.edit()
		for range c.x.IntN(3) {
			s += " ; " + c.edit()
		}
		return s
	case k == 5:
		return "show " + word(c.x.IntN(6))
	case k == 6:
		return fmt.Sprintf("dump %d", 1+c.x.IntN(4))
	case k == 7:
		return "watch"
	case k < 10:
		return fmt.Sprintf("next %d", 1+c.x.IntN(9))
	case k == 10 && c.x.IntN(3) == 0:
		return "quit"
	}
	return []string{"x", "add", "next 0", "watch watch", "drop " + noughts}[c.x.IntN(5)]
}

// managed makes a line of those who manage, and tells what it should tell.
func (c *chance) managed() string {
	id := c.x.IntN(5)
	switch k := c.x.IntN(12); {
	case k == 0:
		c.line = "open"
		n, e := c.d.Open()
		return c.tell(e, fmt.Sprint(n))
	case k == 1 && c.x.IntN(3) == 0:
		c.line = fmt.Sprint("close ", id)
		return c.tell(c.d.Close(id))
	case k < 4:
		command := c.command()
		c.line = fmt.Sprintf("say %d %s", id, command)
		return c.tell(c.d.Say(id, command))
	case k == 4:
		c.line = "sessions"
		var row []string
		for _, n := range c.d.Sessions() {
			row = append(row, fmt.Sprint(n))
		}
		return c.tell(api.OK, row...)
	}
	c.line = fmt.Sprint("pick ", id)
	r, e := c.d.Pick(id)
	if e == api.OK && !r.Done {
		return "ok wait"
	}
	return c.tell(e, append([]string{strings.Join(strings.Split(r.Text, " "), "=")}, c.outs(r.Outs)...)...)
}

// moved makes a line that moves packets, and tells what it should tell.
func (c *chance) moved() string {
	p := c.d.Plane()
	switch k := c.x.IntN(11); {
	case k < 3:
		b := packet(c.t, "10.9.0.1", fmt.Sprintf("10.%d.0.1", c.x.IntN(5)), strings.Repeat("x", c.x.IntN(50)))
		c.line = "tun " + b
		raw, _ := words.Unhex(b)
		return c.tell(api.OK, c.outs(p.Tun(raw))...)
	case k < 5:
		b := []byte{byte(c.x.IntN(6)), 0, 0, 0, 5}
		if len(c.sent) > 0 && c.x.IntN(4) > 0 {
			b = c.sent[c.x.IntN(len(c.sent))].B
		}
		c.line = fmt.Sprintf("udp 192.0.2.7:7 %x", b)
		return c.tell(api.OK, c.outs(p.Udp(api.End{Addr: api.Addr{B: [16]byte{192, 0, 2, 7}}, Port: 7}, b))...)
	case k < 7:
		ms := c.x.Int64N(9000)
		if c.x.IntN(8) == 0 {
			ms = c.x.Int64N(1 << 40)
		}
		c.line = fmt.Sprint("tick ", ms)
		l, e := p.Tick(p.Now() + ms)
		return c.tell(e, c.outs(l)...)
	case k == 7:
		on := c.x.IntN(2) == 0
		c.line = "load off"
		if on {
			c.line = "load on"
		}
		p.Load(on)
		return "ok"
	case k == 8:
		slot := c.x.IntN(6)
		c.line = fmt.Sprint("stat ", slot)
		v, e := p.Stat(slot)
		ready := 0
		if v.Ready {
			ready = 1
		}
		return c.tell(e, fmt.Sprintf("%d/%d/%d/%d/%d/%d", v.Tx, v.Rx, v.Handshakes, v.Last+1, ready, v.Waits))
	}
	d := digits(c.x.IntN(200))
	c.line = "draw " + d
	raw, _ := words.Unhex(d)
	return c.tell(p.Draw([32]byte(raw)))
}

// next makes a line, and tells what it should tell.
func (c *chance) next() string {
	c.t.Helper()
	switch k := c.x.IntN(60); {
	case c.d == nil || k == 0 && c.x.IntN(4) == 0:
		n, at := c.x.IntN(3), c.x.Int64N(100000)
		c.line = fmt.Sprintf("new %s %d", digits(n), at)
		d, e := daemon.New(key(n), at)
		c.d = d
		return c.tell(e)
	case k == 1:
		l := noLines(c.t)
		c.line = l[c.x.IntN(len(l))]
		if strings.Contains(c.line, "\n") {
			c.line = ""
		}
		return "bad"
	case k < 30:
		return c.moved()
	}
	return c.managed()
}

// script is a script made by chance, and what it should tell.
func script(t *testing.T, seed uint64, size int) ([]string, []string) {
	t.Helper()
	c := &chance{t: t, x: rand.New(rand.NewPCG(32, seed))}
	var l, want []string
	for i := range size {
		told := c.next()
		l = append(l, c.line+"\n")
		want = append(want, fmt.Sprintf("%d %s\n", i+1, told))
	}
	return l, want
}

// P32.4, P10: a script tells what the daemon tells; P32.5: of one beginning the same.
func TestAsTheDaemon(t *testing.T) {
	kinds := map[string]int{}
	for seed := range uint64(40) {
		l, want := script(t, seed, 400)
		for _, size := range []int{0, 1, 10, 150, len(l)} {
			s := strings.Join(l[:size], "")
			if len(s) > api.MaxText {
				continue
			}
			runs(t, s, strings.Join(want[:size], ""))
			for i := range size {
				verb, _, _ := strings.Cut(strings.TrimSpace(l[i]), " ")
				kinds[verb+" "+strings.Fields(want[i])[1]]++
			}
		}
		// Line by line, however long all is together.
		d := desk.New()
		for i, line := range l {
			line = strings.TrimSuffix(line, "\n")
			told, e := d.Line(line)
			if e != api.OK {
				told = "bad"
			}
			if fmt.Sprintf("%d %s\n", i+1, told) != want[i] {
				t.Fatalf("%s: %s, want %s", line, told, want[i])
			}
		}
	}
	for _, kind := range []string{"new ok", "open ok", "open err", "close ok", "close err", "say ok", "say err", "pick ok", "pick err", "tun ok", "udp ok", "tick ok", "tick err", "draw ok", "stat ok", "stat err", "sessions ok", "load ok", "load bad"} {
		if kinds[kind] == 0 {
			t.Errorf("never %s", kind)
		}
	}
}

// P5, P10: what is told to be sent by one desk, and said at another one, comes there as it was, and from whom it says.
func TestTwoDesks(t *testing.T) {
	var desks [2]*desk.Desk
	for i := range desks {
		desks[i] = desk.New()
		plays(t, desks[i], "new "+digits(1+i)+" 0", "ok", "draw "+digits(20+i), "ok", "open", "ok 1")
		other := text.Key(curve.Public(key(2 - i)))
		does(t, desks[i], 1, 2, fmt.Sprintf("add %s end=[2001:db8::%d]:9 route=+10.%d.0.0/16", other, 2-i, 2-i), "ok=version=1")
	}
	came := [2][]string{}
	var give func(s int, told string)
	give = func(s int, told string) {
		t.Helper()
		for _, w := range strings.Split(told, " ")[1:] {
			switch verb, rest, _ := strings.Cut(w, "="); verb {
			case "send":
				back := strings.TrimPrefix(rest, fmt.Sprintf("[2001:db8::%d]:9/", 2-s))
				next, e := desks[1-s].Line(fmt.Sprintf("udp [2001:db8::%d]:9 %s", 1+s, back))
				if e != api.OK {
					t.Fatalf("%s: %v", w, e)
				}
				give(1-s, next)
			case "deliver":
				came[s] = append(came[s], strings.TrimPrefix(rest, "1/"))
			default:
				t.Fatalf("told %s", told)
			}
		}
	}
	for i := range 10 {
		s := i % 2
		b := packet(t, fmt.Sprintf("10.%d.0.1", 1+s), fmt.Sprintf("10.%d.0.1", 2-s), strings.Repeat("body", i))
		told, e := desks[s].Line("tun " + b)
		if e != api.OK {
			t.Fatalf("tun: %v", e)
		}
		give(s, told)
		if n := len(came[1-s]); n != 1+i/2 || came[1-s][n-1] != b {
			t.Fatalf("%d came: %q, want %s", n, came[1-s], b)
		}
		for _, d := range desks {
			told, e := d.Line("tick 100")
			if told != "ok" || e != api.OK {
				t.Fatalf("tick: %s %v", told, e)
			}
		}
	}
}

// P1: whatever is said, each line ends, and tells ok, err, or nothing.
func TestAnything(t *testing.T) {
	verbs := []string{"new", "open", "close", "say", "pick", "tun", "udp", "tick", "draw", "load", "stat", "sessions", "", "x", "\x00"}
	args := []string{noughts, "0", "1", "2", "1099511627776", "1099511627777", "on", "off", "45", "192.0.2.1:7", "[::1]:7", "watch", "quit", "next", ";", "add", word(1), word(2), "keep=9", "route=+10.0.0.0/8", "\xff", "é", "-1", "", packet(t, "10.0.0.1", "10.0.0.2", "x"), strings.Repeat("9", 9000)}
	for seed := range uint64(30) {
		x := rand.New(rand.NewPCG(33, seed))
		d := begun(t, 2)
		for range 500 {
			line := verbs[x.IntN(len(verbs))]
			for range x.IntN(5) {
				line += " " + args[x.IntN(len(args))]
			}
			told, e := d.Line(line)
			ok := strings.HasPrefix(told, "ok ") || told == "ok" || strings.HasPrefix(told, "err ")
			if ok != (e == api.OK) || !ok && told != "" || e != api.OK && e != api.ErrLine && e != api.ErrLong {
				t.Fatalf("%.200q: %q %v", line, told, e)
			}
			if _, f := text.Words(told); f != api.OK || strings.Contains(told, "  ") {
				t.Fatalf("%.200q: %q", line, told)
			}
		}
	}
}
