package desk_test

import (
	"fmt"
	"math"
	"slices"
	"strings"
	"testing"

	"adit/api"
	"adit/cidr"
	"adit/curve"
	"adit/desk"
	"adit/inner"
	"adit/plane"
	"adit/text"
	"adit/wire"
	"adit/words"
)

// most is how many bytes a line has at most.
const most = 8192

// noughts are the digits of a secret of noughts.
var noughts = strings.Repeat("0", 64)

// key is an ordinary key, unlike for each number.
func key(n int) api.Key { return api.Key{0: byte(90 - n*37), 5: byte(n), 31: 7} }

// word is its word.
func word(n int) string { return text.Key(key(n)) }

// digits are the digits of an ordinary secret or draw.
func digits(n int) string {
	b := key(n)
	return words.Hex(b[:])
}

// parsed is a text's address.
func parsed(t *testing.T, s string) api.Addr {
	t.Helper()
	a, e := cidr.Parse(s)
	if e != api.OK {
		t.Fatalf("Parse: %v", e)
	}
	return a
}

// packet is the digits of a packet of the tunnel.
func packet(t *testing.T, from, to, body string) string {
	t.Helper()
	b, e := inner.Write(parsed(t, from), parsed(t, to), []byte(body))
	if e != api.OK {
		t.Fatalf("Write: %v", e)
	}
	return words.Hex(b)
}

// tells holds what a line tells.
func tells(t *testing.T, d *desk.Desk, line, want string) {
	t.Helper()
	if got, e := d.Line(line); got != want || e != api.OK {
		t.Fatalf("%s: %q %v\nwant %q", line, got, e, want)
	}
}

// plays holds what lines tell, which stand ahead of what they tell.
func plays(t *testing.T, d *desk.Desk, l ...string) {
	t.Helper()
	for i := 0; i < len(l); i += 2 {
		tells(t, d, l[i], l[i+1])
	}
}

// none holds that a line tells nothing but an error.
func none(t *testing.T, d *desk.Desk, line string, want api.Errno) {
	t.Helper()
	if got, e := d.Line(line); got != "" || e != want {
		t.Fatalf("%.200q: %q %v, want %v", line, got, e, want)
	}
}

// begun is a desk with a daemon at the time 0, and so many sessions.
func begun(t *testing.T, sessions int) *desk.Desk {
	t.Helper()
	d := desk.New()
	tells(t, d, "new "+noughts+" 0", "ok")
	for i := range sessions {
		tells(t, d, "open", fmt.Sprintf("ok %d", i+1))
	}
	return d
}

// does says a command in a session, and picks it to its end, which is told so.
func does(t *testing.T, d *desk.Desk, id, steps int, command, want string) {
	t.Helper()
	tells(t, d, fmt.Sprintf("say %d %s", id, command), "ok")
	for range steps - 1 {
		tells(t, d, fmt.Sprintf("pick %d", id), "ok wait")
	}
	tells(t, d, fmt.Sprintf("pick %d", id), "ok "+want)
}

// lines are a line of each kind, as it may be.
func lines(t *testing.T) []string {
	t.Helper()
	return []string{"new " + noughts + " 0", "open", "close 1", "say 1 watch", "say 1 move 10.0.0.0/8 " + word(1) + " ; quit", "pick 1", "tun 45", "udp 192.0.2.1:51820 00", "udp [2001:db8::1]:1 abcdef", "tick 0", "draw " + noughts, "load on", "load off", "stat 1", "sessions"}
}

// The chapter's example.
func TestExample(t *testing.T) {
	tells(t, desk.New(), "sessions", "err 7")
}

// The document's ten examples.
func TestTen(t *testing.T) {
	k := text.Key(api.Key{})
	plays(t, desk.New(),
		"sessions", "err 7", "new "+noughts+" 0", "ok",
		"open", "ok 1", "open", "ok 2", "sessions", "ok 1 2",
		"say 1 watch", "ok", "pick 1", "ok ok", "pick 1", "err 7",
		"say 2 add "+k+" keep=25", "ok", "pick 2", "ok wait", "pick 2", "ok ok=version=1",
		"tick 0", "ok drop=1/40",
		"stat 1", "ok 0/0/0/0/0/0", "stat 2", "err 4",
		"say 1 next 5", "ok", "pick 1", "ok ok=added="+k+"@1",
		"say 2 add "+k, "ok", "pick 2", "ok wait", "pick 2", "ok error=7",
		"tun 45", "ok drop=0/10",
		"say 2 drop "+k, "ok", "pick 2", "ok wait", "pick 2", "ok ok=version=2", "stat 1", "err 4",
	)
}

// P32.1: of nil, and of a desk that no call made; whatever is said.
func TestNone(t *testing.T) {
	for _, d := range []*desk.Desk{nil, {}} {
		for _, line := range append(lines(t), "", "x", strings.Repeat("x", most+1)) {
			none(t, d, line, api.ErrNil)
		}
	}
}

// P32.1: without a daemon all lines but new tell ErrState; and what is none is none all the same.
func TestState(t *testing.T) {
	d := desk.New()
	for _, line := range lines(t)[1:] {
		tells(t, d, line, "err 7")
		none(t, d, line+" ", api.ErrLine)
	}
	tells(t, d, lines(t)[0], "ok")
	tells(t, d, "sessions", "ok")
	if desk.New() == desk.New() {
		t.Errorf("one desk for all")
	}
	// Another desk has no daemon of this one.
	tells(t, desk.New(), "open", "err 7")
}

// P32.1: a line has 8192 bytes at most.
func TestLong(t *testing.T) {
	d := begun(t, 1)
	for _, front := range []string{"say 1 ", "tun 45", "nonsense", "", "close 1", "tun 4"} {
		for _, fill := range []string{"0", "x", " ", "\n"} {
			line := front + strings.Repeat(fill, most+1-len(front))
			none(t, d, line, api.ErrLong)
			none(t, d, line+line, api.ErrLong)
		}
	}
	tells(t, d, "say 1 "+strings.Repeat("x", most-6), "err 110")
	tells(t, d, "tun "+strings.Repeat("45", most/2-2), "ok drop=0/2")
	tells(t, d, "udp 1.2.3.4:567 "+strings.Repeat("04", most/2-8), "ok drop=0/60")
	none(t, d, strings.Repeat("x", most), api.ErrLine)
	none(t, d, strings.Repeat(" ", most), api.ErrLine)
}

// noLines are such as are no lines.
func noLines(t *testing.T) []string {
	t.Helper()
	out := []string{"", " ", "x", "New " + noughts + " 0", "OPEN", "opens", "ope", "quit", "watch", "1", "=", "new", "close", "say", "say 1", "pick", "tun", "udp", "udp 1.2.3.4:5", "udp 00", "tick", "draw", "load", "stat", "new " + noughts, "new 0", "new 0 " + noughts}
	for _, line := range lines(t) {
		out = append(out, " "+line, line+" ", line+"\n", line+"\t", line+"\r", "\n"+line, line+"\x7f", line+"\x00", line+"é", strings.Replace(line, " ", "  ", 1)+" ", strings.ToUpper(line))
		if strings.Contains(line, " ") {
			out = append(out, strings.Replace(line, " ", "  ", 1), strings.Replace(line, " ", "\t", 1), strings.ReplaceAll(line, " ", ""), line[:strings.LastIndexByte(line, ' ')+1])
		}
		if !strings.HasPrefix(line, "say") {
			out = append(out, line+" 0", line+" on", line+" "+line, line+" =")
		}
	}
	for _, n := range []string{"01", "00", "-1", "+1", "1.0", "1e3", "0x1", "x", "1_0", "1099511627777", "99999999999999999999", strings.Repeat("9", 300), "one"} {
		out = append(out, "close "+n, "pick "+n, "tick "+n, "stat "+n, "say "+n+" watch", "new "+noughts+" "+n)
	}
	for _, b := range []string{"0", "0g", "AB", "aB", "4 5", "0x45", "-1", strings.Repeat("0", 63), strings.Repeat("0", 65)} {
		out = append(out, "tun "+b, "udp 1.2.3.4:5 "+b, "draw "+b, "new "+b+" 0")
	}
	for _, b := range []string{"00", strings.Repeat("0", 62), strings.Repeat("0", 66), strings.Repeat("F", 64), strings.Repeat("0", 63) + "A", strings.Repeat("0", 128)} {
		out = append(out, "draw "+b, "new "+b+" 0")
	}
	for _, end := range []string{"1.2.3.4", "1.2.3.4:0", "1.2.3.4:05", "1.2.3.4:65536", "1.2.3:4", "01.2.3.4:5", "1.2.3.256:5", "[1.2.3.4]:5", "::1:5", "[::1]", "[::1]:0", "[::1]:65536", "[::0]:5", "[0:0:0:0:0:0:0:1]:5", "[::A]:5", "[::0a]:5", "[2001:db8:0:0:1::2]:5", "[1::2:3:4:5:6:7]:5", "none", "x:5", ":5", "[]:5"} {
		out = append(out, "udp "+end+" 00")
	}
	for _, on := range []string{"On", "ON", "of", "0", "1", "true", "yes"} {
		out = append(out, "load "+on)
	}
	return out
}

// P32.1: what is no line, with a daemon and without.
func TestNoLine(t *testing.T) {
	d := begun(t, 1)
	for _, line := range noLines(t) {
		none(t, d, line, api.ErrLine)
		none(t, desk.New(), line, api.ErrLine)
	}
}

// P32.6: a line that is none changes nothing: what is told ahead of each, and behind, is told without them, too.
func TestNoLineChanges(t *testing.T) {
	script := []string{"new " + noughts + " 7", "open", "draw " + digits(1), "say 1 add " + word(1) + " end=192.0.2.7:7 route=+10.1.0.0/16", "pick 1", "pick 1", "say 1 watch", "load on", "tun " + packet(t, "10.0.0.1", "10.1.0.1", "x"), "tick 50", "stat 1", "sessions", "pick 1"}
	var want []string
	d := desk.New()
	for _, line := range script {
		told, e := d.Line(line)
		if e != api.OK {
			t.Fatalf("%s: %v", line, e)
		}
		want = append(want, told)
	}
	d = desk.New()
	for i, line := range script {
		for _, wrong := range noLines(t) {
			none(t, d, wrong, api.ErrLine)
		}
		none(t, d, strings.Repeat("x", most+1), api.ErrLong)
		tells(t, d, line, want[i])
	}
}

// Lines: new: a daemon of the secret at the time, in the place of one that was there.
func TestNewDaemon(t *testing.T) {
	d := begun(t, 2)
	plays(t, d, "sessions", "ok 1 2", "new "+digits(3)+" 1099511627776", "ok", "sessions", "ok", "tick 1", "err 1", "tick 0", "ok")
	plays(t, d, "open", "ok 1", "new "+digits(3)+" 5", "ok", "close 1", "err 4", "tick 200000", "ok")
	// The secret is the one that is said: who knows its public bytes is heard.
	plays(t, d, "new "+digits(1)+" 0", "ok", "open", "ok 1")
	a, b := desk.New(), desk.New()
	for i, x := range []*desk.Desk{a, b} {
		plays(t, x, "new "+digits(1+i)+" 0", "ok", "draw "+digits(20+i), "ok", "open", "ok 1")
		other := text.Key(curve.Public(key(2 - i)))
		does(t, x, 1, 2, fmt.Sprintf("add %s end=192.0.2.%d:9 route=+10.%d.0.0/16", other, 2-i, 2-i), "ok=version=1")
	}
	hello, e := a.Line("tun " + packet(t, "10.1.0.1", "10.2.0.1", "x"))
	if e != api.OK || !strings.HasPrefix(hello, "ok send=192.0.2.2:9/01000000") {
		t.Fatalf("tun: %s %v", hello, e)
	}
	answer, e := b.Line("udp 192.0.2.1:9 " + hello[strings.Index(hello, "/")+1:])
	if e != api.OK || !strings.HasPrefix(answer, "ok send=192.0.2.1:9/02000000") {
		t.Fatalf("udp: %s %v", answer, e)
	}
	tells(t, b, "stat 1", "ok 0/0/1/1/0/0")
}

// Lines: open and close, and the sessions' numbers.
func TestSessions(t *testing.T) {
	d := begun(t, 8)
	plays(t, d, "open", "err 5", "sessions", "ok 1 2 3 4 5 6 7 8")
	plays(t, d, "close 3", "ok", "close 3", "err 4", "close 9", "err 4", "close 0", "err 4", "close 1099511627776", "err 4")
	plays(t, d, "open", "ok 9", "close 1", "ok", "open", "ok 10", "sessions", "ok 2 4 5 6 7 8 9 10")
	for id := range 11 {
		d.Line(fmt.Sprint("close ", id))
	}
	tells(t, d, "sessions", "ok")
}

// Lines: say and pick: a command's words with blanks between; the answer's words with = for each blank, and what the plane told.
func TestSayPick(t *testing.T) {
	d := begun(t, 3)
	plays(t, d, "pick 1", "err 7", "pick 4", "err 4", "pick 0", "err 4", "say 4 watch", "err 4", "say 0 x", "err 4", "say 1 x", "err 110", "say 1 next", "err 110", "say 1 next 65", "err 110", "pick 1", "err 7")
	plays(t, d, "say 1 dump 2", "ok", "say 1 watch", "err 7", "say 1 x", "err 7", "pick 1", "ok wait", "pick 1", "ok ok", "pick 1", "err 7")
	does(t, d, 2, 1, "watch", "ok")
	does(t, d, 1, 4, "add "+word(1)+" route=+10.1.0.0/16 ; add "+word(2)+" keep=9 ; add "+word(3), "ok=version=1")
	does(t, d, 2, 1, "show "+word(1), "ok=public="+word(1)+"=shared="+text.Key(api.Key{})+"=keep=0=routes=10.1.0.0/16=version=1")
	does(t, d, 2, 1, "next 2", "ok=added="+word(1)+"@1=added="+word(2)+"@1")
	does(t, d, 2, 1, "show "+word(4), "error=4")
	does(t, d, 3, 1, "next 1", "error=7")
	// A packet waits; the peer goes, and with it what waits.
	tells(t, d, "tun "+packet(t, "10.0.0.1", "10.1.0.1", ""), "ok drop=1/40")
	does(t, d, 1, 3, "drop "+word(1)+" ; alter "+word(2)+" keep=8", "ok=version=2 drop=1/73")
	does(t, d, 3, 1, "quit", "ok")
	plays(t, d, "pick 3", "err 4", "sessions", "ok 1 2")
}

// Lines: tun, udp, tick, draw and load: what the plane tells.
func TestPlaneLines(t *testing.T) {
	d := begun(t, 1)
	plays(t, d, "tun 45", "ok drop=0/10", "tun 00", "ok drop=0/50", "tun "+strings.Repeat("45", api.MaxPacket+1), "ok drop=0/2")
	plays(t, d, "udp 192.0.2.1:5 04", "ok drop=0/10", "udp [::1]:65535 09000000", "ok drop=0/60", "udp 255.255.255.255:1 04000000", "ok drop=0/3", "udp 1.2.3.4:5 04000000"+strings.Repeat("00", 28), "ok drop=0/72")
	for i := range 64 {
		tells(t, d, "draw "+digits(i), "ok")
	}
	tells(t, d, "draw "+noughts, "err 5")
	plays(t, d, "tick 200001", "err 1", "tick 1099511627776", "err 1", "tick 200000", "ok", "tick 1", "ok", "load on", "ok", "load on", "ok", "load off", "ok")
	// The first draw that waits is the one that is taken.
	does(t, d, 1, 2, "add "+word(1)+" end=192.0.2.3:9 route=+10.1.0.0/16 ; alter "+word(1)+" keep=1", "ok=version=1")
	told, _ := d.Line("tick 0")
	b, _ := words.Unhex(strings.TrimPrefix(told, "ok send=192.0.2.3:9/"))
	hello, e := wire.ReadHello(b)
	if e != api.OK || hello.Ephemeral != curve.Public(key(0)) {
		t.Fatalf("tick: %s %v", told, e)
	}
	// The time goes on by as much as is said, from where it is.
	plays(t, d, "tick 999", "ok", "tick 1", "ok", "new "+noughts+" 1099511627775", "ok", "tick 2", "err 1", "tick 1", "ok", "tick 1", "err 1", "tick 0", "ok")
}

// Lines: load: under load a handshake is asked for a proof, else not.
func TestLoad(t *testing.T) {
	d := begun(t, 1)
	other := begun(t, 1)
	does(t, other, 1, 2, "add "+text.Key(curve.Public(api.Key{}))+" end=192.0.2.1:9 keep=1", "ok=version=1")
	tells(t, other, "draw "+digits(1), "ok")
	hello, _ := other.Line("tick 0")
	udp := "udp 192.0.2.2:9 " + hello[strings.Index(hello, "/")+1:]
	for _, l := range []string{"off", "on", "off", "on", "on"} {
		tells(t, d, "load "+l, "ok")
		if l == "off" {
			tells(t, d, udp, "ok drop=0/73")
			continue
		}
		tells(t, d, udp, "ok drop=0/4")
		tells(t, d, "draw "+digits(2), "ok")
		if got, e := d.Line(udp); e != api.OK || !strings.HasPrefix(got, "ok send=192.0.2.2:9/03000000") || !strings.HasSuffix(got, " drop=0/74") {
			t.Fatalf("under load: %s %v", got, e)
		}
	}
}

// Lines: stat.
func TestStat(t *testing.T) {
	a, b := desk.New(), desk.New()
	for i, x := range []*desk.Desk{a, b} {
		plays(t, x, "new "+digits(1+i)+" 77", "ok", "draw "+digits(20+i), "ok", "open", "ok 1")
		other := text.Key(curve.Public(key(2 - i)))
		does(t, x, 1, 2, fmt.Sprintf("add %s end=192.0.2.%d:9 route=+10.%d.0.0/16", other, 2-i, 2-i), "ok=version=1")
	}
	plays(t, a, "stat 0", "err 4", "stat 2", "err 4", "stat 17", "err 4", "stat 1099511627776", "err 4", "stat 1", "ok 0/0/0/0/0/0")
	hello, _ := a.Line("tun " + packet(t, "10.1.0.1", "10.2.0.1", "first"))
	tells(t, a, "stat 1", "ok 0/0/0/0/0/1")
	tells(t, a, "tun "+packet(t, "10.1.0.1", "10.2.0.1", "second one"), "ok")
	tells(t, a, "stat 1", "ok 0/0/0/0/0/2")
	tells(t, b, "tick 100", "ok")
	answer, _ := b.Line("udp 192.0.2.1:9 " + hello[strings.Index(hello, "/")+1:])
	tells(t, b, "stat 1", "ok 0/0/1/178/0/0")
	tells(t, a, "tick 23", "ok")
	data, _ := a.Line("udp 192.0.2.2:9 " + answer[strings.Index(answer, "/")+1:])
	tells(t, a, "stat 1", "ok 55/0/1/101/1/0")
	row := strings.Split(data, " ")
	if len(row) != 3 {
		t.Fatalf("udp: %s", data)
	}
	for i, body := range []string{"first", "second one"} {
		want := packet(t, "10.1.0.1", "10.2.0.1", body)
		tells(t, b, "udp 192.0.2.1:9 "+strings.TrimPrefix(row[1+i], "send=192.0.2.2:9/"), "ok deliver=1/"+want)
	}
	tells(t, b, "stat 1", "ok 0/64/1/178/1/0")
}

// P32.3: Words: what a plane told, of each kind, with numbers and ends as they may not be, too.
func TestWords(t *testing.T) {
	six := api.End{Addr: parsed(t, "2001:db8::1"), Port: 65535}
	four := api.End{Addr: parsed(t, "192.0.2.1"), Port: 1}
	strange := api.End{Addr: api.Addr{B: [16]byte{15: 1}}, Port: 5}
	for _, c := range []struct {
		x    plane.Out
		want string
	}{
		{plane.Out{Kind: plane.Send, End: four, B: []byte{0, 171, 255}}, "send=192.0.2.1:1/00abff"},
		{plane.Out{Kind: plane.Send, End: six, B: []byte{1}, Slot: 4, E: 9}, "send=[2001:db8::1]:65535/01"},
		{plane.Out{Kind: plane.Send, End: four}, "send=192.0.2.1:1/"},
		{plane.Out{Kind: plane.Send, B: []byte{1}}, "send=none/01"},
		{plane.Out{Kind: plane.Send, End: strange, B: []byte{1}}, "send=none/01"},
		{plane.Out{Kind: plane.Send, End: api.End{Addr: four.Addr, Port: 65536}}, "send=none/"},
		{plane.Out{Kind: plane.Deliver, Slot: 16, B: []byte{16, 2}, End: four, E: 3}, "deliver=16/1002"},
		{plane.Out{Kind: plane.Deliver, Slot: -3}, "deliver=-3/"},
		{plane.Out{Kind: plane.Deliver, Slot: math.MinInt, B: []byte{9}}, "deliver=-9223372036854775808/09"},
		{plane.Out{Kind: plane.Drop, Slot: 2, E: api.ErrKey}, "drop=2/73"},
		{plane.Out{Kind: plane.Drop, End: four, B: []byte{1}}, "drop=0/0"},
		{plane.Out{Kind: plane.Drop, Slot: -1, E: -20}, "drop=-1/-20"},
		{plane.Out{Kind: plane.Drop, Slot: math.MaxInt, E: math.MinInt}, "drop=9223372036854775807/-9223372036854775808"},
		{plane.Out{}, "drop=0/0"},
		{plane.Out{Kind: 4, Slot: 5, E: 6, B: []byte{1}}, "drop=5/6"},
		{plane.Out{Kind: -1, Slot: 5, E: 1234}, "drop=5/1234"},
	} {
		if got := desk.Words([]plane.Out{c.x}); !slices.Equal(got, []string{c.want}) {
			t.Errorf("%v: %q, want %s", c.x, got, c.want)
		}
	}
	l := []plane.Out{{Kind: plane.Drop, Slot: 1}, {Kind: plane.Send}, {Kind: plane.Drop, Slot: 3}, {Kind: plane.Drop, Slot: 3}}
	if got := desk.Words(l); !slices.Equal(got, []string{"drop=1/0", "send=none/", "drop=3/0", "drop=3/0"}) || cap(got) != len(got) {
		t.Errorf("%q", got)
	}
	for _, l := range [][]plane.Out{nil, {}} {
		if got := desk.Words(l); len(got) != 0 {
			t.Errorf("%q", got)
		}
	}
}

// runs holds what a script tells.
func runs(t *testing.T, s, want string) {
	t.Helper()
	if got, e := desk.Run(s); got != want || e != api.OK {
		t.Fatalf("%.200q: %.400q %v\nwant %.400q", s, got, e, want)
	}
}

// P32.2: Run: each line with its number, from 1 on.
func TestRun(t *testing.T) {
	runs(t, "", "")
	runs(t, "sessions", "1 err 7\n")
	runs(t, "sessions\n", "1 err 7\n")
	runs(t, "\n", "1 bad\n")
	runs(t, "\n\nsessions", "1 bad\n2 bad\n3 err 7\n")
	runs(t, "x\n\n", "1 bad\n2 bad\n")
	runs(t, " ", "1 bad\n")
	runs(t, "sessions\r\nsessions\n sessions\nsessions ", "1 bad\n2 err 7\n3 bad\n4 bad\n")
	runs(t, "new "+noughts+" 0\nopen\nsessions\nsay 1 x\nx", "1 ok\n2 ok 1\n3 ok 1\n4 err 110\n5 bad\n")
	// Each script has a desk of its own.
	runs(t, "sessions", "1 err 7\n")
	// A line that is too long is bad, and no more.
	long := "say 1 " + strings.Repeat("x", most-6)
	runs(t, "new "+noughts+" 0\nopen\n"+long+"\n"+long+"x\nsessions\n"+long+"x", "1 ok\n2 ok 1\n3 err 110\n4 bad\n5 ok 1\n6 bad\n")
}

// README's script.
func TestReadme(t *testing.T) {
	runs(t, "new "+noughts+" 0\nopen\nsay 1 add "+text.Key(api.Key{})+" keep=25\npick 1\npick 1\nstat 1\n", "1 ok\n2 ok 1\n3 ok\n4 ok wait\n5 ok ok=version=1\n6 ok 0/0/0/0/0/0\n")
}

// P32.2: Run of as much as it takes, and of more.
func TestRunLong(t *testing.T) {
	bad := func(n int) string {
		var out strings.Builder
		for i := range n {
			fmt.Fprintf(&out, "%d bad\n", i+1)
		}
		return out.String()
	}
	runs(t, strings.Repeat("\n", api.MaxScript), bad(api.MaxScript))
	runs(t, strings.Repeat("\n", api.MaxScript-1), bad(api.MaxScript-1))
	runs(t, strings.Repeat("\n", api.MaxScript-1)+"x", bad(api.MaxScript))
	runs(t, strings.Repeat("x", api.MaxText), bad(1))
	runs(t, strings.Repeat("\n", 1000)+strings.Repeat("x", api.MaxText-1000), bad(1001))
	for _, s := range []string{
		strings.Repeat("\n", api.MaxScript+1),
		strings.Repeat("\n", api.MaxScript) + "x",
		strings.Repeat("\n", api.MaxScript) + " ",
		strings.Repeat("sessions\n", api.MaxScript) + "\n",
		strings.Repeat("x", api.MaxText+1),
		strings.Repeat("x", api.MaxText) + "\n",
		strings.Repeat("\n", api.MaxText),
		strings.Repeat("x\n", api.MaxText),
	} {
		if got, e := desk.Run(s); got != "" || e != api.ErrLong {
			t.Errorf("%.20q of %d: %.20q %v", s, len(s), got, e)
		}
	}
}

// P9: from the step at which a command ends packets go as it says, and who watches is told; not ahead of it.
func TestSaidIsDone(t *testing.T) {
	d := begun(t, 2)
	to := "tun " + packet(t, "10.0.0.1", "10.1.0.1", "")
	does(t, d, 2, 1, "watch", "ok")
	does(t, d, 1, 3, "add "+word(1)+" route=+10.1.0.0/16 ; add "+word(2), "ok=version=1")
	does(t, d, 2, 1, "next 9", "ok=added="+word(1)+"@1=added="+word(2)+"@1")
	steps := func(command, before, after, want, watched string) {
		t.Helper()
		tells(t, d, "say 1 "+command, "ok")
		for {
			does(t, d, 2, 1, "next 9", "ok")
			tells(t, d, to, before)
			got, e := d.Line("pick 1")
			if e != api.OK {
				t.Fatalf("pick: %v", e)
			}
			if got != "ok wait" {
				if got != "ok "+want {
					t.Fatalf("%s: %s, want %s", command, got, want)
				}
				break
			}
		}
		tells(t, d, to, after)
		does(t, d, 2, 1, "next 9", "ok"+watched)
	}
	steps("move 10.1.0.0/16 "+word(2), "ok drop=1/40", "ok drop=2/40", "ok=version=2", "=changed="+word(1)+"@2=changed="+word(2)+"@2")
	// Two packets waited at 1, and one more at 2, ahead of this one.
	steps("alter "+word(1)+" route=+10.1.0.0/24", "ok drop=2/40", "ok drop=1/40", "ok=version=3", "=changed="+word(1)+"@3")
	steps("drop "+word(1), "ok drop=1/40", "ok drop=2/40", "ok=version=4 drop=1/73", "=removed="+word(1)+"@4")
	// Nine wait at 2 at once: the first one goes.
	for range 8 {
		d.Line(to)
	}
	steps("roll "+word(2)+" "+word(3), "ok drop=2/5 drop=2/40", "ok drop=1/40", "ok=version=5 drop=2/73", "=removed="+word(2)+"@5=added="+word(3)+"@5")
	steps("alter "+word(3)+" routes=none", "ok drop=1/40", "ok drop=0/90", "ok=version=6", "=changed="+word(3)+"@6")
	steps("alter "+word(3)+" route=+10.0.0.0/8 end=192.0.2.9:9", "ok drop=0/90", "ok drop=1/4", "ok=version=7", "=changed="+word(3)+"@7")
	// What ends with an error changes nothing, and tells nobody.
	steps("alter "+word(3)+" route=-10.0.0.0/8 ; add "+word(3), "ok drop=1/4", "ok drop=1/4", "error=7", "")
	tells(t, d, to, "ok drop=1/4")
	steps("add "+word(3), "ok drop=1/5 drop=1/4", "ok drop=1/5 drop=1/4", "error=7", "")
}
