package daemon_test

import (
	"fmt"
	"math"
	"math/rand/v2"
	"slices"
	"strings"
	"testing"

	"adit/api"
	"adit/curve"
	"adit/daemon"
	"adit/inner"
	"adit/opsm"
	"adit/plane"
	"adit/proto"
	"adit/record"
	"adit/text"
	"adit/vstore"
	"adit/wire"
)

// key is an ordinary key, unlike for each number, which do not rise as the numbers do.
func key(n int) api.Key { return api.Key{0: byte(90 - n*37), 5: byte(n), 31: 7} }

// word is its word.
func word(n int) string { return text.Key(key(n)) }

// made is a daemon at the time 0 with so many sessions.
func made(t *testing.T, sessions int) *daemon.Daemon {
	t.Helper()
	d, e := daemon.New(api.Key{1}, 0)
	if e != api.OK {
		t.Fatalf("New: %v", e)
	}
	for i := range sessions {
		if n, e := d.Open(); n != i+1 || e != api.OK {
			t.Fatalf("Open: %d %v", n, e)
		}
	}
	return d
}

// say lets a session be at a command.
func say(t *testing.T, d *daemon.Daemon, id int, s string) {
	t.Helper()
	if e := d.Say(id, s); e != api.OK || !d.Busy(id) {
		t.Fatalf("Say(%d, %s): %v", id, s, e)
	}
}

// waits does a step that is not the last one.
func waits(t *testing.T, d *daemon.Daemon, id int) {
	t.Helper()
	if r, e := d.Pick(id); e != api.OK || r.Done || r.Text != "" || len(r.Outs) != 0 || !d.Busy(id) {
		t.Fatalf("Pick(%d): %v %v", id, r, e)
	}
}

// ends does the last step, which is answered so.
func ends(t *testing.T, d *daemon.Daemon, id int, want string, outs ...plane.Out) {
	t.Helper()
	r, e := d.Pick(id)
	if e != api.OK || !r.Done || r.Text != want || d.Busy(id) || !slices.EqualFunc(r.Outs, outs, same) || cap(r.Outs) != len(r.Outs) {
		t.Fatalf("Pick(%d): %v %v, want %s %v", id, r, e, want, outs)
	}
	refused(t, d, id, api.ErrState)
}

// same tells whether the same is told.
func same(a, b plane.Out) bool {
	return a.Kind == b.Kind && a.End == b.End && a.Slot == b.Slot && a.E == b.E && string(a.B) == string(b.B)
}

// refused holds that a session does no step.
func refused(t *testing.T, d *daemon.Daemon, id int, want api.Errno) {
	t.Helper()
	if d.Busy(id) {
		t.Fatalf("%d is busy", id)
	}
	if id == gone && want == api.ErrState {
		return
	}
	if r, e := d.Pick(id); e != want || r.Done || r.Text != "" || len(r.Outs) != 0 {
		t.Fatalf("Pick(%d): %v %v, want %v", id, r, e, want)
	}
}

// gone is the number of a session that is to quit.
const gone = 8

// does says a command and does all its steps, the last one of which is answered so.
func does(t *testing.T, d *daemon.Daemon, id int, s string, steps int, want string, outs ...plane.Out) {
	t.Helper()
	say(t, d, id, s)
	for range steps - 1 {
		waits(t, d, id)
	}
	ends(t, d, id, want, outs...)
}

// sessions holds which ones there are.
func sessions(t *testing.T, d *daemon.Daemon, want ...int) {
	t.Helper()
	if got := d.Sessions(); !slices.Equal(got, want) || cap(got) != len(got) {
		t.Fatalf("Sessions: %v (room for %d), want %v", got, cap(got), want)
	}
}

// logged holds what is written down.
func logged(t *testing.T, d *daemon.Daemon, want ...daemon.Entry) {
	t.Helper()
	if got := d.Log(); !slices.Equal(got, want) || cap(got) != len(got) {
		t.Fatalf("Log: %v (room for %d), want %v", got, cap(got), want)
	}
}

// drop tells that something was thrown away.
func drop(slot int, e api.Errno) plane.Out { return plane.Out{Kind: plane.Drop, Slot: slot, E: e} }

// told holds that just this is told.
func told(t *testing.T, got []plane.Out, want ...plane.Out) {
	t.Helper()
	if !slices.EqualFunc(got, want, same) {
		t.Fatalf("told %v, want %v", got, want)
	}
}

// goes is a packet to 10.n.0.1.
func goes(t *testing.T, n int) []byte {
	t.Helper()
	b, e := inner.Write(api.Addr{B: [16]byte{10}}, api.Addr{B: [16]byte{10, byte(n), 0, 1}}, nil)
	if e != api.OK {
		t.Fatalf("Write: %v", e)
	}
	return b
}

// numbers are such as no session has.
func numbers() []int { return []int{0, -1, 4, 9, 100, math.MinInt, math.MaxInt} }

// The chapter's examples.
func TestExample(t *testing.T) {
	d := made(t, 1)
	does(t, d, 1, "watch", 1, "ok")
	does(t, d, 1, "next 1", 1, "ok")
}

// The document's ten examples, as a daemon tells them.
func TestTen(t *testing.T) {
	k := text.Key(api.Key{})
	d, e := daemon.New(api.Key{}, 0)
	if e != api.OK {
		t.Fatalf("New: %v", e)
	}
	for want := 1; want <= 2; want++ {
		if n, e := d.Open(); n != want || e != api.OK {
			t.Fatalf("Open: %d %v", n, e)
		}
	}
	sessions(t, d, 1, 2)
	does(t, d, 1, "watch", 1, "ok")
	does(t, d, 2, "add "+k+" keep=25", 2, "ok version=1")
	l, e := d.Plane().Tick(0)
	told(t, l, drop(1, api.ErrAddr))
	if e != api.OK {
		t.Errorf("Tick: %v", e)
	}
	if v, e := d.Plane().Stat(1); e != api.OK || v != (plane.Stat{Last: -1}) {
		t.Errorf("Stat: %v %v", v, e)
	}
	if _, e := d.Plane().Stat(2); e != api.ErrNone {
		t.Errorf("Stat: %v", e)
	}
	does(t, d, 1, "next 5", 1, "ok added="+k+"@1")
	does(t, d, 2, "add "+k, 2, "error 7")
	told(t, d.Plane().Tun(goes(t, 1)[:1]), drop(0, api.ErrShort))
	does(t, d, 2, "drop "+k, 2, "ok version=2")
	if _, e := d.Plane().Stat(1); e != api.ErrNone {
		t.Errorf("Stat: %v", e)
	}
}

// P30.1: New.
func TestNew(t *testing.T) {
	for _, at := range []int64{0, 1, 77777, api.MaxTime} {
		d, e := daemon.New(api.Key{3}, at)
		if e != api.OK || d.Plane().Now() != at || d.Plane().Public() != curve.Public(api.Key{3}) || d.Store().Version() != 0 || len(d.Store().Keys()) != 0 {
			t.Fatalf("New at %d: %v", at, e)
		}
		sessions(t, d)
		logged(t, d)
		if d.Store() != d.Store() || d.Plane() != d.Plane() {
			t.Errorf("others each time")
		}
	}
	for _, at := range []int64{-1, math.MinInt64, api.MaxTime + 1, math.MaxInt64} {
		if d, e := daemon.New(api.Key{3}, at); d != nil || e != api.ErrArg {
			t.Errorf("New at %d: %v %v", at, d, e)
		}
	}
}

// P30.1: a daemon that is nil, or that no call made.
func TestNil(t *testing.T) {
	for _, d := range []*daemon.Daemon{nil, {}} {
		if n, e := d.Open(); n != 0 || e != api.ErrNil {
			t.Errorf("Open: %d %v", n, e)
		}
		for _, id := range append(numbers(), 1) {
			if e := d.Close(id); e != api.ErrNil {
				t.Errorf("Close: %v", e)
			}
			for _, s := range []string{"watch", "", "what", strings.Repeat("x", api.MaxText+1)} {
				if e := d.Say(id, s); e != api.ErrNil {
					t.Errorf("Say: %v", e)
				}
			}
			refused(t, d, id, api.ErrNil)
		}
		if d.Sessions() != nil || d.Log() != nil || d.Store() != nil || d.Plane() != nil {
			t.Errorf("%v %v %v %v", d.Sessions(), d.Log(), d.Store(), d.Plane())
		}
	}
}

// P30.1: MaxSessions sessions, one more, and numbers that are not given again.
func TestOpen(t *testing.T) {
	d := made(t, api.MaxSessions)
	full := func() {
		t.Helper()
		for range 2 {
			if n, e := d.Open(); n != 0 || e != api.ErrFull {
				t.Fatalf("Open: %d %v", n, e)
			}
		}
	}
	full()
	sessions(t, d, 1, 2, 3, 4, 5, 6, 7, 8)
	for _, id := range []int{3, 8} {
		if e := d.Close(id); e != api.OK {
			t.Fatalf("Close: %v", e)
		}
	}
	sessions(t, d, 1, 2, 4, 5, 6, 7)
	for want := 9; want <= 10; want++ {
		if n, e := d.Open(); n != want || e != api.OK {
			t.Fatalf("Open: %d %v", n, e)
		}
	}
	full()
	sessions(t, d, 1, 2, 4, 5, 6, 7, 9, 10)
	for _, id := range d.Sessions() {
		if e := d.Close(id); e != api.OK {
			t.Fatalf("Close: %v", e)
		}
	}
	sessions(t, d)
	if n, e := d.Open(); n != 11 || e != api.OK {
		t.Fatalf("Open: %d %v", n, e)
	}
}

// P30.1, P30.2, P30.3: sessions that there are not.
func TestNone(t *testing.T) {
	d := made(t, 3)
	if e := d.Close(2); e != api.OK {
		t.Fatalf("Close: %v", e)
	}
	for _, id := range append(numbers(), 2) {
		if e := d.Close(id); e != api.ErrNone {
			t.Errorf("Close(%d): %v", id, e)
		}
		for _, s := range []string{"watch", "", "what", strings.Repeat("x", api.MaxText+1)} {
			if e := d.Say(id, s); e != api.ErrNone {
				t.Errorf("Say(%d): %v", id, e)
			}
		}
		refused(t, d, id, api.ErrNone)
	}
	sessions(t, d, 1, 3)
}

// P30.2: Say's errors, in order: the session is at what it was at.
func TestSay(t *testing.T) {
	d := made(t, 2)
	long := strings.Repeat("x", api.MaxText+1)
	wrong := map[string]api.Errno{"": api.ErrLine, "what": api.ErrLine, "watch ": api.ErrLine, "Watch": api.ErrLine, "next 0": api.ErrLine, "dump 17": api.ErrLine, "add": api.ErrLine, "add " + word(1) + " ;": api.ErrLine, long: api.ErrLong, long[1:]: api.ErrLine}
	for s, want := range wrong {
		if e := d.Say(1, s); e != want || d.Busy(1) {
			t.Errorf("Say(%.20s): %v", s, e)
		}
	}
	refused(t, d, 1, api.ErrState)
	for _, s := range []string{"watch", "next 3", "dump 2", "quit", "show " + word(1), "add " + word(1)} {
		d := made(t, 2)
		say(t, d, 1, s)
		for other := range wrong {
			if e := d.Say(1, other); e != api.ErrState || !d.Busy(1) {
				t.Errorf("Say(%.20s) at %s: %v", other, s, e)
			}
		}
		if e := d.Say(1, "quit"); e != api.ErrState || d.Busy(2) {
			t.Errorf("Say: %v", e)
		}
	}
}

// P30.3: Batches, one step for each key, and one more; their errors, too.
func TestBatch(t *testing.T) {
	d := made(t, 2)
	does(t, d, 1, "add "+word(1)+" route=+10.1.0.0/16 keep=3 ; add "+word(2), 3, "ok version=1")
	p, v, there := d.Store().Get(key(1))
	if want := (record.Peer{Public: key(1), Keep: 3, Routes: []api.Prefix{{Addr: api.Addr{B: [16]byte{10, 1}}, Bits: 16}}}); !there || v != 1 || !record.Same(p, want) {
		t.Errorf("Get: %v %d %v", p, v, there)
	}
	does(t, d, 2, "alter "+word(1)+" keep=3", 2, "ok version=1")
	does(t, d, 2, "alter "+word(3)+" keep=3", 2, "error 4")
	does(t, d, 2, "add "+word(1), 2, "error 7")
	does(t, d, 1, "roll "+word(1)+" "+word(3)+" ; drop "+word(2), 4, "ok version=2")
	if l := d.Store().Keys(); len(l) != 1 || l[0] != key(3) {
		t.Errorf("Keys: %v", l)
	}
	logged(t, d,
		daemon.Entry{Session: 1, Text: "add " + word(1) + " route=+10.1.0.0/16 keep=3 ; add " + word(2), Answer: "ok version=1", Version: 1},
		daemon.Entry{Session: 2, Text: "alter " + word(1) + " keep=3", Answer: "ok version=1", Version: 1},
		daemon.Entry{Session: 2, Text: "alter " + word(3) + " keep=3", Answer: "error 4", Version: 1},
		daemon.Entry{Session: 2, Text: "add " + word(1), Answer: "error 7", Version: 1},
		daemon.Entry{Session: 1, Text: "roll " + word(1) + " " + word(3) + " ; drop " + word(2), Answer: "ok version=2", Version: 2})
}

// P30.3: Show and Dump.
func TestShowDump(t *testing.T) {
	d := made(t, 2)
	does(t, d, 1, "show "+word(1), 1, "error 4")
	does(t, d, 1, "dump 1", 2, "ok")
	for n := 1; n <= 5; n++ {
		does(t, d, 1, fmt.Sprintf("add %s keep=%d", word(n), n), 2, fmt.Sprintf("ok version=%d", n))
	}
	line, _ := record.Write(record.Peer{Public: key(4), Keep: 4})
	does(t, d, 2, "show "+word(4), 1, "ok "+line+" version=4")
	var all []string
	for _, k := range d.Store().Keys() {
		all = append(all, text.Key(k))
	}
	for size, steps := range map[int]int{1: 7, 2: 4, 3: 3, 4: 3, 5: 3, 6: 2, 16: 2} {
		does(t, d, 2, fmt.Sprintf("dump %d", size), steps, "ok "+strings.Join(all, " "))
	}
	// Dumps are not written down.
	if l := d.Log(); len(l) != 7 || l[0] != (daemon.Entry{Session: 1, Text: "show " + word(1), Answer: "error 4"}) || l[6] != (daemon.Entry{Session: 2, Text: "show " + word(4), Answer: "ok " + line + " version=4", Version: 5}) {
		t.Errorf("Log: %v", l)
	}
}

// P30.3: a Dump whose pin is not kept any more, and one that tells the keys of its first step.
func TestDumpExpired(t *testing.T) {
	d := made(t, 7)
	does(t, d, 7, "add "+word(1), 2, "ok version=1")
	for id := 1; id <= 5; id++ {
		say(t, d, id, "dump 4")
		waits(t, d, id)
	}
	does(t, d, 7, "add "+word(2), 2, "ok version=2")
	ends(t, d, 1, "error 102")
	for id := 2; id <= 5; id++ {
		ends(t, d, id, "ok "+word(1))
	}
}

// P30.3: Watch, Next: what is committed since, in order; their errors.
func TestWatch(t *testing.T) {
	d := made(t, 3)
	does(t, d, 1, "next 1", 1, "error 7")
	does(t, d, 1, "add "+word(1), 2, "ok version=1")
	does(t, d, 2, "watch", 1, "ok")
	does(t, d, 2, "watch", 1, "error 7")
	does(t, d, 2, "next 64", 1, "ok")
	does(t, d, 1, "alter "+word(1)+" keep=1 ; add "+word(2), 3, "ok version=2")
	does(t, d, 3, "watch", 1, "ok")
	does(t, d, 1, "drop "+word(1), 2, "ok version=3")
	does(t, d, 2, "next 1", 1, "ok changed="+word(1)+"@2")
	// It watches still, and what waits still waits.
	does(t, d, 2, "watch", 1, "error 7")
	does(t, d, 3, "next 2", 1, "ok removed="+word(1)+"@3")
	does(t, d, 2, "next 64", 1, "ok added="+word(2)+"@2 removed="+word(1)+"@3")
	does(t, d, 2, "next 64", 1, "ok")
	does(t, d, 1, "next 1", 1, "error 7")
	// Who watches is told of what they do, too, and of what was left out.
	for n := 4; n <= 21; n++ {
		does(t, d, 3, fmt.Sprintf("alter %s keep=%d", word(2), n), 2, fmt.Sprintf("ok version=%d", n))
	}
	want := "ok"
	for n := 4; n <= 19; n++ {
		want += fmt.Sprintf(" changed=%s@%d", word(2), n)
	}
	does(t, d, 3, "next 16", 1, want)
	does(t, d, 3, "next 1", 1, "ok lost=2")
	does(t, d, 2, "next 64", 1, want+" lost=2")
	// What ends with an error, or commits nothing, tells nobody.
	does(t, d, 3, "add "+word(2), 2, "error 7")
	does(t, d, 3, "alter "+word(2)+" keep=21", 2, "ok version=21")
	does(t, d, 2, "next 64", 1, "ok")
	for _, e := range d.Log() {
		if strings.HasPrefix(e.Text, "watch") || strings.HasPrefix(e.Text, "next") {
			t.Errorf("Log: %v", e)
		}
	}
}

// P30.3: Quit; P30.1: Close: with what the session is at, and its watcher.
func TestQuit(t *testing.T) {
	d := made(t, 8)
	for id := 1; id <= 8; id++ {
		does(t, d, id, "watch", 1, "ok")
	}
	say(t, d, 1, "add "+word(1))
	waits(t, d, 1)
	if e := d.Close(1); e != api.OK || d.Busy(1) {
		t.Fatalf("Close: %v", e)
	}
	refused(t, d, 1, api.ErrNone)
	if d.Store().Version() != 0 {
		t.Errorf("Version: %d", d.Store().Version())
	}
	does(t, d, gone, "quit", 1, "ok")
	sessions(t, d, 2, 3, 4, 5, 6, 7)
	if e := d.Say(gone, "watch"); e != api.ErrNone {
		t.Errorf("Say: %v", e)
	}
	refused(t, d, gone, api.ErrNone)
	// There is room for two watchers again, who watch from then on.
	does(t, d, 2, "add "+word(1), 2, "ok version=1")
	for id := 9; id <= 10; id++ {
		if n, e := d.Open(); n != id || e != api.OK {
			t.Fatalf("Open: %d %v", n, e)
		}
		does(t, d, id, "next 1", 1, "error 7")
		does(t, d, id, "watch", 1, "ok")
		does(t, d, id, "next 1", 1, "ok")
	}
	does(t, d, 3, "next 9", 1, "ok added="+word(1)+"@1")
	logged(t, d, daemon.Entry{Session: 2, Text: "add " + word(1), Answer: "ok version=1", Version: 1})
	// One that does not watch may quit as well.
	d = made(t, 8)
	does(t, d, gone, "quit", 1, "ok")
	sessions(t, d, 1, 2, 3, 4, 5, 6, 7)
	logged(t, d)
}

// P30.3, P9: what is committed is taken in by the plane at the last step, which tells what the plane tells.
func TestPlane(t *testing.T) {
	d := made(t, 2)
	p := d.Plane()
	does(t, d, 1, "add "+word(1)+" route=+10.1.0.0/16 ; add "+word(2)+" end=192.0.2.2:7 route=+10.2.0.0/16", 3, "ok version=1")
	told(t, p.Tun(goes(t, 1)), drop(1, api.ErrAddr))
	told(t, p.Tun(goes(t, 2)), drop(2, api.ErrNone))
	told(t, p.Tun(goes(t, 3)), drop(0, api.ErrRoute))
	// From the last step on, not ahead of it.
	say(t, d, 1, "move 10.2.0.0/16 "+word(1))
	waits(t, d, 1)
	told(t, p.Tun(goes(t, 2)), drop(2, api.ErrNone))
	ends(t, d, 1, "ok version=2")
	told(t, p.Tun(goes(t, 2)), drop(1, api.ErrAddr))
	say(t, d, 2, "add "+word(3)+" keep=5 route=+10.3.0.0/16 end=192.0.2.3:9")
	waits(t, d, 2)
	if _, e := p.Stat(3); e != api.ErrNone {
		t.Errorf("Stat: %v", e)
	}
	ends(t, d, 2, "ok version=3")
	if e, there := p.End(3); !there || e.Port != 9 {
		t.Errorf("End: %v %v", e, there)
	}
	p.Draw([32]byte{1})
	l, e := p.Tick(0)
	if k, _ := wire.Kind(l[0].B); len(l) != 1 || k != wire.Hello || l[0].End.Port != 9 || e != api.OK {
		t.Errorf("Tick: %v %v", l, e)
	}
	// Packets of three peers wait; all of them go, in the order of the Batch.
	told(t, p.Tun(goes(t, 3)))
	does(t, d, 1, "drop "+word(3)+" ; drop "+word(1)+" ; roll "+word(2)+" "+word(4), 5, "ok version=4", drop(3, api.ErrKey), drop(1, api.ErrKey), drop(2, api.ErrKey))
	if _, e := p.Stat(1); e != api.OK || d.Store().Slot(key(4)) != 1 {
		t.Errorf("Stat: %v", e)
	}
	told(t, p.Tun(goes(t, 3)), drop(0, api.ErrRoute))
}

// P30.3: an attempt that failed is followed by another one; behind MaxRetry more the answer is ErrBusy.
func TestBusy(t *testing.T) {
	d := made(t, 2)
	does(t, d, 1, "add "+word(1), 2, "ok version=1")
	say(t, d, 1, "alter "+word(1)+" keep=1")
	version := 1
	for i := range api.MaxRetry + 1 {
		waits(t, d, 1)
		version++
		does(t, d, 2, fmt.Sprintf("alter %s keep=%d", word(1), 10+i), 2, fmt.Sprintf("ok version=%d", version))
		if i < api.MaxRetry {
			waits(t, d, 1)
		}
	}
	ends(t, d, 1, "error 101")
	if l := d.Log(); len(l) != api.MaxRetry+3 || l[api.MaxRetry+2] != (daemon.Entry{Session: 1, Text: "alter " + word(1) + " keep=1", Answer: "error 101", Version: uint64(version)}) {
		t.Errorf("Log: %v", l)
	}
}

// P30.1: the first MaxScript Batches and Shows are written down, and no more; what is handed out is a list of its own.
func TestLog(t *testing.T) {
	d := made(t, 2)
	var want []daemon.Entry
	for i := range api.MaxScript + 20 {
		id := 1 + i%2
		e := daemon.Entry{Session: id, Text: "show " + word(7), Answer: "error 4"}
		switch {
		case i == 500:
			does(t, d, id, "add "+word(7), 2, "ok version=1")
			e = daemon.Entry{Session: id, Text: "add " + word(7), Answer: "ok version=1", Version: 1}
		case i > 500:
			line, _ := record.Write(record.Peer{Public: key(7)})
			does(t, d, id, e.Text, 1, "ok "+line+" version=1")
			e.Answer, e.Version = "ok "+line+" version=1", 1
		default:
			does(t, d, id, e.Text, 1, e.Answer)
		}
		want = append(want, e)
		if i%100 == 0 {
			logged(t, d, want[:min(len(want), api.MaxScript)]...)
		}
	}
	logged(t, d, want[:api.MaxScript]...)
	d.Log()[3] = daemon.Entry{}
	logged(t, d, want[:api.MaxScript]...)
}

// P30.1: what stands in the lists is the caller's.
func TestSessionsMemory(t *testing.T) {
	d := made(t, 3)
	l := d.Sessions()
	clear(l)
	sessions(t, d, 1, 2, 3)
}

// edit is an edit's text, by chance, of a few keys and routes.
func edit(x *rand.Rand) string {
	k, o := word(x.IntN(5)), word(5+x.IntN(3))
	route := fmt.Sprintf("10.%d.0.0/16", x.IntN(6))
	switch x.IntN(8) {
	case 0, 1:
		return "add " + k + " route=+" + route
	case 2:
		return "alter " + k + " keep=" + fmt.Sprint(x.IntN(50))
	case 3:
		return "alter " + k + " route=-" + route
	case 4:
		return "drop " + k
	case 5:
		return "roll " + k + " " + o
	case 6:
		return "roll " + o + " " + k
	}
	return "move " + route + " " + k
}

// command is a command's text, by chance.
func command(x *rand.Rand) string {
	switch k := x.IntN(10); {
	case k < 6:
		l := make([]string, 1+x.IntN(3))
		for i := range l {
			l[i] = edit(x)
		}
		return strings.Join(l, " ; ")
	case k < 8:
		return "show " + word(x.IntN(8))
	}
	return fmt.Sprintf("dump %d", 1+x.IntN(6))
}

// replay holds that all that is written down is answered so when it is done at once, one behind the other, and tells the events.
func replay(t *testing.T, l []daemon.Entry) (*vstore.Store, []vstore.Event) {
	t.Helper()
	s := vstore.New()
	var events []vstore.Event
	for _, e := range l {
		if e.Answer != "error 101" {
			c, f := proto.Read(e.Text)
			o, g := opsm.Start(c)
			if f != api.OK || g != api.OK {
				t.Fatalf("%v: %v %v", e, f, g)
			}
			for !o.Step(s) {
			}
			events = append(events, o.Events()...)
			if got := proto.Answer(o.Result().E, o.Result().Words); got != e.Answer {
				t.Fatalf("%v, at once %s", e, got)
			}
		}
		if s.Version() != e.Version {
			t.Fatalf("%v, at once version %d", e, s.Version())
		}
	}
	return s, events
}

// P30.4, P7: whatever is picked, in whatever order, each command is answered as at once at its last step; P30.5: who watches is told of all.
func TestAtOnce(t *testing.T) {
	batches := 0
	for seed := range uint64(300) {
		x := rand.New(rand.NewPCG(30, seed))
		d := made(t, 8)
		does(t, d, gone, "watch", 1, "ok")
		var seen []string
		for range 500 {
			id := 1 + x.IntN(6)
			if !d.Busy(id) {
				say(t, d, id, command(x))
				continue
			}
			if r, e := d.Pick(id); e != api.OK || !r.Done && r.Text != "" {
				t.Fatalf("Pick: %v %v", r, e)
			}
			say(t, d, gone, "next 64")
			r, _ := d.Pick(gone)
			seen = append(seen, strings.Fields(r.Text)[1:]...)
		}
		s, events := replay(t, d.Log())
		if !slices.Equal(s.Keys(), d.Store().Keys()) {
			t.Fatalf("%v, at once %v", d.Store().Keys(), s.Keys())
		}
		for _, k := range s.Keys() {
			a, v, _ := s.Get(k)
			b, u, _ := d.Store().Get(k)
			if !record.Same(a, b) || v != u || s.Slot(k) != d.Store().Slot(k) {
				t.Fatalf("%v %d, at once %v %d", b, u, a, v)
			}
			// The plane knows all peers, and no others.
			if _, e := d.Plane().Stat(s.Slot(k)); e != api.OK {
				t.Fatalf("Stat: %v", e)
			}
		}
		known := 0
		for slot := 1; slot <= api.MaxPeers; slot++ {
			if _, e := d.Plane().Stat(slot); e == api.OK {
				known++
			}
		}
		if known != len(s.Keys()) || len(seen) != len(events) {
			t.Fatalf("%d known of %d; %d told of %d", known, len(s.Keys()), len(seen), len(events))
		}
		for i, e := range events {
			if kind := [...]string{"", "added", "changed", "removed"}[e.Kind]; seen[i] != fmt.Sprintf("%s=%s@%d", kind, text.Key(e.Key), e.Version) {
				t.Fatalf("%s of %v", seen[i], e)
			}
		}
		for _, e := range d.Log() {
			if strings.HasPrefix(e.Answer, "ok version=") {
				batches++
			}
		}
	}
	if batches < 500 {
		t.Errorf("%d Batches", batches)
	}
}

// P30.6: a session that shows, dumps, watches and quits does not touch the others.
func TestApart(t *testing.T) {
	for seed := range uint64(20) {
		var logs [2][]daemon.Entry
		var answers [2][]string
		for i := range logs {
			x := rand.New(rand.NewPCG(31, seed))
			y := rand.New(rand.NewPCG(32, seed))
			d := made(t, 7)
			for range 300 {
				id := 1 + x.IntN(2)
				if c := command(x); !d.Busy(id) {
					say(t, d, id, c)
				} else if r, e := d.Pick(id); e != api.OK {
					t.Fatalf("Pick: %v", e)
				} else {
					answers[i] = append(answers[i], r.Text)
				}
				if i == 0 {
					continue
				}
				other := 3 + y.IntN(2)
				if !slices.Contains(d.Sessions(), other) {
					continue
				}
				if c := []string{"show " + word(y.IntN(8)), "watch", "next 5", "dump 3"}[y.IntN(4)]; !d.Busy(other) {
					say(t, d, other, c)
				}
				d.Pick(other)
			}
			for _, e := range d.Log() {
				if e.Session <= 2 {
					logs[i] = append(logs[i], e)
				}
			}
		}
		if !slices.Equal(logs[0], logs[1]) || !slices.Equal(answers[0], answers[1]) {
			t.Fatalf("%v, and %v", logs[0], logs[1])
		}
	}
}

// P1: a daemon that is copied by its value ends each call.
func TestCopied(t *testing.T) {
	d := made(t, 3)
	c := *d
	for range 3 {
		for _, x := range []*daemon.Daemon{d, &c} {
			does(t, x, 1, "show "+word(1), 1, "error 4")
			x.Open()
			x.Close(2)
			x.Log()
			x.Sessions()
		}
	}
}
