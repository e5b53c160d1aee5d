package proto_test

import (
	"encoding/base64"
	"math"
	"math/rand/v2"
	"net/netip"
	"slices"
	"strconv"
	"strings"
	"testing"

	"adit/api"
	"adit/cidr"
	"adit/feed"
	"adit/proto"
	"adit/record"
	"adit/vstore"
)

// noughts is the word of a key of noughts.
const noughts = "AAAAAAAAAAAAAAAAAAAAAAAAAAAAAAAAAAAAAAAAAAA="

// key is a key whose bytes rise from one on.
func key(first int) api.Key {
	var out api.Key
	for i := range out {
		out[i] = byte(first + i)
	}
	return out
}

// word is a key's word, as another program writes it.
func word(k api.Key) string { return base64.StdEncoding.EncodeToString(k[:]) }

// kw is the word of a key whose bytes rise from one on.
func kw(first int) string { return word(key(first)) }

// addr is a text's address, as another program reads it.
func addr(s string) api.Addr {
	a := netip.MustParseAddr(s)
	out := api.Addr{Six: a.Is6()}
	copy(out.B[:], a.AsSlice())
	return out
}

// prefix is a text's prefix, as another program reads it.
func prefix(s string) api.Prefix {
	p := netip.MustParsePrefix(s)
	if p != p.Masked() {
		panic(s)
	}
	return api.Prefix{Addr: addr(p.Addr().String()), Bits: p.Bits()}
}

// changes are changes of each kind, with their texts.
func changes() ([]record.Change, []string) {
	return []record.Change{
		{Kind: record.SetShared, Key: key(3)},
		{Kind: record.SetShared},
		{Kind: record.SetEnd, End: api.End{Addr: addr("192.0.2.1"), Port: 65535}},
		{Kind: record.SetEnd, End: api.End{Addr: addr("2001:db8::1"), Port: 1}},
		{Kind: record.ClearEnd},
		{Kind: record.SetKeep, Keep: 25},
		{Kind: record.SetKeep},
		{Kind: record.AddRoute, Prefix: prefix("10.1.2.0/24")},
		{Kind: record.DropRoute, Prefix: prefix("2001:db8::/33")},
		{Kind: record.ClearRoutes},
	}, []string{
		"shared=" + kw(3), "shared=" + noughts, "end=192.0.2.1:65535", "end=[2001:db8::1]:1", "end=none", "keep=25", "keep=0", "route=+10.1.2.0/24", "route=-2001:db8::/33", "routes=none",
	}
}

// wrongChanges are changes that may not be.
func wrongChanges() []record.Change {
	return []record.Change{
		{}, {Kind: 8}, {Kind: -1}, {Kind: record.SetKeep, Keep: 65536}, {Kind: record.SetKeep, Keep: -1}, {Kind: record.SetEnd}, {Kind: record.ClearEnd, Keep: 1},
		{Kind: record.SetShared, Prefix: prefix("10.0.0.0/8")}, {Kind: record.AddRoute, Prefix: api.Prefix{Bits: 33}}, {Kind: record.ClearRoutes, Key: key(1)},
	}
}

// keeps are n changes that are right, unlike each other.
func keeps(n int) []record.Change {
	var out []record.Change
	for i := range n {
		out = append(out, record.Change{Kind: record.SetKeep, Keep: i})
	}
	return out
}

// keepTexts are their texts, each behind a blank.
func keepTexts(n int) string {
	out := ""
	for i := range n {
		out += " keep=" + strconv.Itoa(i)
	}
	return out
}

// edits are edits that may be, with their texts, as another program would write them.
func edits() ([]proto.Edit, []string) {
	out := []proto.Edit{
		{Verb: proto.Add},
		{Verb: proto.Add, Key: key(1)},
		{Verb: proto.Add, Key: key(1), Changes: keeps(1)},
		{Verb: proto.Add, Key: key(1), Changes: keeps(7)},
		{Verb: proto.Add, Key: key(1), Changes: keeps(8)},
		{Verb: proto.Alter, Changes: keeps(1)},
		{Verb: proto.Alter, Key: key(1), Changes: keeps(1)},
		{Verb: proto.Alter, Key: key(1), Changes: keeps(8)},
		{Verb: proto.Alter, Key: key(1), Changes: []record.Change{{Kind: record.ClearEnd}, {Kind: record.ClearEnd}}},
		{Verb: proto.Drop},
		{Verb: proto.Drop, Key: key(1)},
		{Verb: proto.Move},
		{Verb: proto.Move, Key: key(1), Prefix: prefix("10.0.0.0/8")},
		{Verb: proto.Move, Key: key(2), Prefix: prefix("::/0")},
		{Verb: proto.Move, Prefix: prefix("2001:db8::1/128")},
		{Verb: proto.Roll, Key: key(1)},
		{Verb: proto.Roll, Fresh: key(1)},
		{Verb: proto.Roll, Key: key(1), Fresh: key(2)},
		{Verb: proto.Roll, Fresh: api.Key{31: 1}},
	}
	texts := []string{
		"add " + noughts, "add " + kw(1), "add " + kw(1) + " keep=0", "add " + kw(1) + keepTexts(7), "add " + kw(1) + keepTexts(8),
		"alter " + noughts + " keep=0", "alter " + kw(1) + " keep=0", "alter " + kw(1) + keepTexts(8), "alter " + kw(1) + " end=none end=none",
		"drop " + noughts, "drop " + kw(1),
		"move 0.0.0.0/0 " + noughts, "move 10.0.0.0/8 " + kw(1), "move ::/0 " + kw(2), "move 2001:db8::1/128 " + noughts,
		"roll " + kw(1) + " " + noughts, "roll " + noughts + " " + kw(1), "roll " + kw(1) + " " + kw(2), "roll " + noughts + " " + word(api.Key{31: 1}),
	}
	all, words := changes()
	for i, c := range all {
		out = append(out, proto.Edit{Verb: proto.Add, Key: key(5), Changes: []record.Change{c}}, proto.Edit{Verb: proto.Alter, Key: key(6), Changes: []record.Change{c}})
		texts = append(texts, "add "+kw(5)+" "+words[i], "alter "+kw(6)+" "+words[i])
	}
	return append(out, proto.Edit{Verb: proto.Add, Key: key(9), Changes: all[:8]}, proto.Edit{Verb: proto.Alter, Key: key(9), Changes: all[2:]}),
		append(texts, "add "+kw(9)+" "+strings.Join(words[:8], " "), "alter "+kw(9)+" "+strings.Join(words[2:], " "))
}

// verbs are all verbs of edits.
func verbs() []int { return []int{proto.Add, proto.Alter, proto.Drop, proto.Move, proto.Roll} }

// noVerbs are numbers that are verbs of neither edits nor commands.
func noVerbs() []int { return []int{0, -1, 7, 8, 100, 257, math.MinInt, math.MaxInt} }

// edit is an edit of a verb that may be.
func edit(verb int) proto.Edit {
	e := proto.Edit{Verb: verb, Key: key(1)}
	switch verb {
	case proto.Add, proto.Alter:
		e.Changes = keeps(2)
	case proto.Move:
		e.Prefix = prefix("10.0.0.0/8")
	case proto.Roll:
		e.Fresh = key(2)
	}
	return e
}

// wrongEdits are edits that may not be.
func wrongEdits() []proto.Edit {
	out := []proto.Edit{{}}
	for _, n := range append(noVerbs(), 6) {
		out = append(out, proto.Edit{Verb: n}, proto.Edit{Verb: n, Key: key(1)}, proto.Edit{Verb: n, Key: key(1), Changes: keeps(1)}, proto.Edit{Verb: n, Key: key(1), Fresh: key(2)})
	}
	for _, verb := range verbs() {
		with := func(change func(e *proto.Edit)) {
			e := edit(verb)
			change(&e)
			out = append(out, e)
		}
		counts := func(all ...int) bool { return slices.Contains(all, verb) }
		if !counts(proto.Roll) {
			with(func(e *proto.Edit) { e.Fresh = key(2) })
			with(func(e *proto.Edit) { e.Fresh = e.Key })
			with(func(e *proto.Edit) { e.Fresh[31] = 1 })
		}
		if !counts(proto.Move) {
			with(func(e *proto.Edit) { e.Prefix = prefix("10.0.0.0/8") })
			with(func(e *proto.Edit) { e.Prefix.Bits = 1 })
			with(func(e *proto.Edit) { e.Prefix.Addr.Six = true })
		}
		if !counts(proto.Add, proto.Alter) {
			with(func(e *proto.Edit) { e.Changes = keeps(1) })
			with(func(e *proto.Edit) { e.Changes = []record.Change{{}} })
			with(func(e *proto.Edit) { e.Changes = keeps(9) })
			continue
		}
		for _, n := range []int{9, 10, 16, 1000} {
			with(func(e *proto.Edit) { e.Changes = keeps(n) })
		}
		for _, c := range wrongChanges() {
			with(func(e *proto.Edit) { e.Changes = []record.Change{c} })
			with(func(e *proto.Edit) { e.Changes = append(keeps(7), c) })
			with(func(e *proto.Edit) { e.Changes = append([]record.Change{c}, keeps(7)...) })
		}
	}
	for _, p := range []api.Prefix{{Bits: -1}, {Bits: 33}, {Bits: math.MinInt}, {Addr: api.Addr{B: [16]byte{10, 0, 0, 1}}, Bits: 8}, {Addr: api.Addr{B: [16]byte{4: 1}}, Bits: 32}, {Addr: api.Addr{Six: true}, Bits: 129}} {
		out = append(out, proto.Edit{Verb: proto.Move, Key: key(1), Prefix: p})
	}
	return append(out, proto.Edit{Verb: proto.Alter}, proto.Edit{Verb: proto.Alter, Key: key(1)}, proto.Edit{Verb: proto.Alter, Key: key(1), Changes: []record.Change{}},
		proto.Edit{Verb: proto.Roll}, proto.Edit{Verb: proto.Roll, Key: key(1), Fresh: key(1)})
}

// drops are n edits that are right, unlike each other.
func drops(n int) []proto.Edit {
	var out []proto.Edit
	for i := range n {
		out = append(out, proto.Edit{Verb: proto.Drop, Key: key(i)})
	}
	return out
}

// dropTexts are their texts, with a blank, a ; and a blank between.
func dropTexts(n int) string {
	var out []string
	for i := range n {
		out = append(out, "drop "+kw(i))
	}
	return strings.Join(out, " ; ")
}

// commands are commands that may be, with their texts, as another program would write them.
func commands() ([]proto.Command, []string) {
	out := []proto.Command{
		{Verb: proto.Show}, {Verb: proto.Show, Key: key(1)}, {Verb: proto.Watch}, {Verb: proto.Quit},
		{Verb: proto.Dump, Size: 1}, {Verb: proto.Dump, Size: 2}, {Verb: proto.Dump, Size: 10}, {Verb: proto.Dump, Size: 15}, {Verb: proto.Dump, Size: 16},
		{Verb: proto.Next, Size: 1}, {Verb: proto.Next, Size: 2}, {Verb: proto.Next, Size: 16}, {Verb: proto.Next, Size: 17}, {Verb: proto.Next, Size: 63}, {Verb: proto.Next, Size: 64},
		{Verb: proto.Batch, Edits: drops(2)}, {Verb: proto.Batch, Edits: drops(7)}, {Verb: proto.Batch, Edits: drops(8)},
		{Verb: proto.Batch, Edits: []proto.Edit{edit(proto.Drop), edit(proto.Drop)}},
	}
	texts := []string{
		"show " + noughts, "show " + kw(1), "watch", "quit", "dump 1", "dump 2", "dump 10", "dump 15", "dump 16", "next 1", "next 2", "next 16", "next 17", "next 63", "next 64",
		dropTexts(2), dropTexts(7), dropTexts(8), "drop " + kw(1) + " ; drop " + kw(1),
	}
	all, words := edits()
	for i, e := range all {
		out = append(out, proto.Command{Verb: proto.Batch, Edits: []proto.Edit{e}})
		texts = append(texts, words[i])
	}
	for i := 0; i+8 <= len(all); i++ {
		out = append(out, proto.Command{Verb: proto.Batch, Edits: all[i : i+8]})
		texts = append(texts, strings.Join(words[i:i+8], " ; "))
	}
	return out, texts
}

// command is a command of a verb that may be.
func command(verb int) proto.Command {
	c := proto.Command{Verb: verb}
	switch verb {
	case proto.Batch:
		c.Edits = []proto.Edit{edit(proto.Alter), edit(proto.Move)}
	case proto.Show:
		c.Key = key(1)
	case proto.Dump, proto.Next:
		c.Size = 5
	}
	return c
}

// wrongCommands are commands that may not be.
func wrongCommands() []proto.Command {
	out := []proto.Command{{}}
	for _, n := range noVerbs() {
		out = append(out, proto.Command{Verb: n}, proto.Command{Verb: n, Key: key(1)}, proto.Command{Verb: n, Size: 1}, proto.Command{Verb: n, Edits: drops(1)})
	}
	for verb := proto.Batch; verb <= proto.Quit; verb++ {
		with := func(change func(c *proto.Command)) {
			c := command(verb)
			change(&c)
			out = append(out, c)
		}
		if verb != proto.Show {
			with(func(c *proto.Command) { c.Key = key(1) })
			with(func(c *proto.Command) { c.Key[31] = 1 })
		}
		if verb != proto.Dump && verb != proto.Next {
			with(func(c *proto.Command) { c.Size = 1 })
			with(func(c *proto.Command) { c.Size = -1 })
			with(func(c *proto.Command) { c.Size = math.MinInt })
		}
		if verb != proto.Batch {
			with(func(c *proto.Command) { c.Edits = drops(1) })
			with(func(c *proto.Command) { c.Edits = make([]proto.Edit, 1) })
			with(func(c *proto.Command) { c.Edits = drops(9) })
		}
	}
	for _, n := range []int{0, -1, -5, 17, 18, 64, 65, 1 << 32, 1<<32 + 1, math.MinInt, math.MaxInt} {
		out = append(out, proto.Command{Verb: proto.Dump, Size: n})
	}
	for _, n := range []int{0, -1, -5, 65, 66, 100, 1 << 32, 1<<32 + 1, math.MinInt, math.MaxInt} {
		out = append(out, proto.Command{Verb: proto.Next, Size: n})
	}
	out = append(out, proto.Command{Verb: proto.Batch}, proto.Command{Verb: proto.Batch, Edits: []proto.Edit{}})
	for _, n := range []int{9, 10, 16, 1000} {
		out = append(out, proto.Command{Verb: proto.Batch, Edits: drops(n)})
	}
	for _, e := range wrongEdits() {
		out = append(out, proto.Command{Verb: proto.Batch, Edits: []proto.Edit{e}}, proto.Command{Verb: proto.Batch, Edits: append(drops(7), e)},
			proto.Command{Verb: proto.Batch, Edits: append([]proto.Edit{e}, drops(7)...)})
	}
	return out
}

// copied is an equal command with lists of its own.
func copied(c proto.Command) proto.Command {
	c.Edits = slices.Clone(c.Edits)
	for i := range c.Edits {
		c.Edits[i].Changes = slices.Clone(c.Edits[i].Changes)
	}
	return c
}

// equal tells whether commands are equal, asked field by field.
func equal(a, b proto.Command) bool {
	if a.Verb != b.Verb || a.Key != b.Key || a.Size != b.Size || len(a.Edits) != len(b.Edits) {
		return false
	}
	for i, x := range a.Edits {
		y := b.Edits[i]
		if x.Verb != y.Verb || x.Key != y.Key || x.Fresh != y.Fresh || x.Prefix != y.Prefix || len(x.Changes) != len(y.Changes) {
			return false
		}
		for j := range x.Changes {
			if x.Changes[j] != y.Changes[j] {
				return false
			}
		}
	}
	return true
}

// isZero tells whether a command is the zero one.
func isZero(c proto.Command) bool { return equal(c, proto.Command{}) }

// noRead holds that a text is no command's.
func noRead(t *testing.T, s string) {
	t.Helper()
	want := api.ErrLine
	if len(s) > api.MaxText {
		want = api.ErrLong
	}
	if c, e := proto.Read(s); e != want || !isZero(c) {
		t.Errorf("%.200q: %v %v, want %v", s, c, e, want)
	}
}

// The chapter's examples.
func TestExample(t *testing.T) {
	if c, e := proto.Read("watch"); !equal(c, proto.Command{Verb: proto.Watch}) || e != api.OK {
		t.Errorf("watch: %v %v", c, e)
	}
	if s, e := proto.Write(proto.Command{Verb: proto.Batch, Edits: []proto.Edit{{Verb: proto.Add}}}); s != "add "+noughts || e != api.OK {
		t.Errorf("add: %q %v", s, e)
	}
}

// The verbs have the chapter's numbers.
func TestVerbs(t *testing.T) {
	if !slices.Equal(verbs(), []int{1, 2, 3, 4, 5}) {
		t.Errorf("edits: %v", verbs())
	}
	if l := []int{proto.Batch, proto.Show, proto.Dump, proto.Watch, proto.Next, proto.Quit}; !slices.Equal(l, []int{1, 2, 3, 4, 5, 6}) {
		t.Errorf("commands: %v", l)
	}
}

// P26.1: RightEdit.
func TestRightEdit(t *testing.T) {
	all, texts := edits()
	for i, e := range all {
		if !proto.RightEdit(e) {
			t.Errorf("may not be: %q", texts[i])
		}
		e.Changes = append([]record.Change{}, e.Changes...)
		if !proto.RightEdit(e) {
			t.Errorf("may not be with an empty list: %q", texts[i])
		}
	}
	for _, e := range wrongEdits() {
		if proto.RightEdit(e) {
			t.Errorf("may be: %v", e)
		}
	}
}

// P26.1: an edit with no change where one must be, with MaxBatch changes and with one more.
func TestRightEditChanges(t *testing.T) {
	for n := range 40 {
		for _, verb := range append(verbs(), noVerbs()...) {
			e := edit(1)
			if !slices.Contains(noVerbs(), verb) {
				e = edit(verb)
			}
			e.Verb, e.Changes = verb, keeps(n)
			want := false
			switch verb {
			case proto.Add:
				want = n <= 8
			case proto.Alter:
				want = n >= 1 && n <= 8
			case proto.Drop, proto.Move, proto.Roll:
				want = n == 0
			}
			if got := proto.RightEdit(e); got != want {
				t.Errorf("verb %d with %d changes: %v", verb, n, got)
			}
		}
	}
}

// P26.1: any keys may be, but a Roll to the same one.
func TestRightEditKeys(t *testing.T) {
	l := []api.Key{{}, key(1), key(2), {0: 1}, {31: 1}, {15: 255}}
	for i, k := range l {
		for _, verb := range verbs() {
			e := edit(verb)
			e.Key, e.Fresh = k, api.Key{}
			if verb == proto.Roll {
				e.Fresh = key(9)
			}
			if !proto.RightEdit(e) {
				t.Errorf("verb %d of %v", verb, k)
			}
		}
		for j, fresh := range l {
			if got := proto.RightEdit(proto.Edit{Verb: proto.Roll, Key: k, Fresh: fresh}); got != (i != j) {
				t.Errorf("roll of %v to %v: %v", k, fresh, got)
			}
		}
	}
}

// P26.1: Right.
func TestRight(t *testing.T) {
	all, texts := commands()
	for i, c := range all {
		if !proto.Right(c) {
			t.Errorf("may not be: %q", texts[i])
		}
		c.Edits = append([]proto.Edit{}, c.Edits...)
		if !proto.Right(c) {
			t.Errorf("may not be with an empty list: %q", texts[i])
		}
	}
	for _, c := range wrongCommands() {
		if proto.Right(c) {
			t.Errorf("may be: %v", c)
		}
	}
}

// P26.1: Sizes and numbers of edits at their bounds and beyond.
func TestRightSizes(t *testing.T) {
	for n := -100; n < 200; n++ {
		for verb := -1; verb < 9; verb++ {
			want := verb == proto.Dump && n >= 1 && n <= 16 || verb == proto.Next && n >= 1 && n <= 64 || n == 0 && (verb == proto.Show || verb == proto.Watch || verb == proto.Quit)
			if got := proto.Right(proto.Command{Verb: verb, Size: n}); got != want {
				t.Errorf("verb %d with Size %d: %v", verb, n, got)
			}
		}
		if n < 0 {
			continue
		}
		for verb := -1; verb < 9; verb++ {
			want := verb == proto.Batch && n >= 1 && n <= 8 || n == 0 && (verb == proto.Show || verb == proto.Watch || verb == proto.Quit)
			if got := proto.Right(proto.Command{Verb: verb, Edits: drops(n)}); got != want {
				t.Errorf("verb %d with %d edits: %v", verb, n, got)
			}
		}
	}
}

// P26.1: Same.
func TestSame(t *testing.T) {
	all, _ := commands()
	all = append(all, proto.Command{}, proto.Command{Verb: -1}, proto.Command{Key: key(1)}, proto.Command{Size: -1}, proto.Command{Edits: make([]proto.Edit, 1)},
		proto.Command{Verb: proto.Batch, Edits: drops(9)}, proto.Command{Verb: proto.Show, Size: 3}, proto.Command{Verb: proto.Dump, Size: 3, Edits: make([]proto.Edit, 1)})
	all = append(all, wrongCommands()[:60]...)
	for _, c := range all {
		for _, d := range all {
			if got := proto.Same(c, copied(d)); got != equal(c, d) {
				t.Errorf("%v and %v: %v", c, d, got)
			}
		}
	}
	whole := func() proto.Command {
		return proto.Command{Verb: 1, Key: key(1), Size: 7, Edits: []proto.Edit{{Verb: 2, Key: key(2), Fresh: key(3), Prefix: prefix("10.0.0.0/8"), Changes: keeps(3)}, {Verb: 3, Key: key(4)}}}
	}
	for i, change := range []func(c *proto.Command){
		func(c *proto.Command) { c.Verb++ }, func(c *proto.Command) { c.Verb = -1 }, func(c *proto.Command) { c.Key[0]++ }, func(c *proto.Command) { c.Key[31]++ },
		func(c *proto.Command) { c.Size++ }, func(c *proto.Command) { c.Size = 0 }, func(c *proto.Command) { c.Edits = nil }, func(c *proto.Command) { c.Edits = c.Edits[:1] },
		func(c *proto.Command) { c.Edits = c.Edits[1:] }, func(c *proto.Command) { c.Edits = append(c.Edits, proto.Edit{}) }, func(c *proto.Command) { slices.Reverse(c.Edits) },
		func(c *proto.Command) { c.Edits[0].Verb++ }, func(c *proto.Command) { c.Edits[1].Verb = 0 }, func(c *proto.Command) { c.Edits[0].Key[0]++ },
		func(c *proto.Command) { c.Edits[1].Key[31]++ }, func(c *proto.Command) { c.Edits[0].Fresh[0]++ }, func(c *proto.Command) { c.Edits[1].Fresh[31]++ },
		func(c *proto.Command) { c.Edits[0].Prefix.Bits++ }, func(c *proto.Command) { c.Edits[1].Prefix.Addr.Six = true }, func(c *proto.Command) { c.Edits[0].Prefix.Addr.B[15]++ },
		func(c *proto.Command) { c.Edits[0].Changes = nil }, func(c *proto.Command) { c.Edits[0].Changes = c.Edits[0].Changes[:2] }, func(c *proto.Command) { c.Edits[1].Changes = keeps(1) },
		func(c *proto.Command) { c.Edits[0].Changes[2].Keep++ }, func(c *proto.Command) { c.Edits[0].Changes[0].Kind++ }, func(c *proto.Command) { c.Edits[0].Changes[1].Key[31]++ },
		func(c *proto.Command) { slices.Reverse(c.Edits[0].Changes) },
	} {
		c := whole()
		change(&c)
		if proto.Same(c, whole()) || proto.Same(whole(), c) || !proto.Same(c, copied(c)) || !proto.Same(whole(), whole()) {
			t.Errorf("change %d", i)
		}
	}
}

// P26.1 and rule 4: a list without elements may be nil or empty; what lies behind a list's length is not read.
func TestSameLists(t *testing.T) {
	a, b := proto.Command{Verb: 1}, proto.Command{Verb: 1, Edits: []proto.Edit{}}
	if !proto.Same(a, b) || !proto.Same(b, a) {
		t.Errorf("nil and empty edits")
	}
	a, b = proto.Command{Verb: 1, Edits: []proto.Edit{{Verb: 1}}}, proto.Command{Verb: 1, Edits: []proto.Edit{{Verb: 1, Changes: []record.Change{}}}}
	if !proto.Same(a, b) || !proto.Same(b, a) {
		t.Errorf("nil and empty changes")
	}
	a.Edits, b.Edits = drops(5)[:2], drops(2)
	if !proto.Same(a, b) || !proto.Same(b, a) {
		t.Errorf("edits behind the length")
	}
	a.Edits[0].Changes, b.Edits[0].Changes = keeps(4)[:1], keeps(1)
	if !proto.Same(a, b) || !proto.Same(b, a) {
		t.Errorf("changes behind the length")
	}
}

// P26.1: Write.
func TestWrite(t *testing.T) {
	all, texts := commands()
	for i, c := range all {
		before := copied(c)
		if s, e := proto.Write(c); s != texts[i] || e != api.OK || !equal(c, before) {
			t.Errorf("%q %v, want %q", s, e, texts[i])
		}
	}
	for _, c := range wrongCommands() {
		before := copied(c)
		if s, e := proto.Write(c); s != "" || e != api.ErrForm || !equal(c, before) {
			t.Errorf("%v: %q %v", c, s, e)
		}
	}
}

// P26.1 and rule 4: what lies behind a list's length is neither read nor written.
func TestWriteLists(t *testing.T) {
	l := drops(9)
	c := proto.Command{Verb: proto.Batch, Edits: l[:2]}
	if s, e := proto.Write(c); s != dropTexts(2) || e != api.OK {
		t.Errorf("%q %v", s, e)
	}
	m := keeps(12)
	c = proto.Command{Verb: proto.Batch, Edits: []proto.Edit{{Verb: proto.Add, Key: key(1), Changes: m[:3]}}}
	if s, e := proto.Write(c); s != "add "+kw(1)+keepTexts(3) || e != api.OK {
		t.Errorf("%q %v", s, e)
	}
	if !equal(proto.Command{Edits: l}, proto.Command{Edits: drops(9)}) || !slices.Equal(m, keeps(12)) {
		t.Errorf("what is handed in was changed")
	}
}

// P26.2: Read.
func TestRead(t *testing.T) {
	all, texts := commands()
	for i, s := range texts {
		c, e := proto.Read(s)
		if e != api.OK || !equal(c, all[i]) || cap(c.Edits) != len(c.Edits) {
			t.Errorf("%q: %v %v", s, c, e)
		}
		for _, x := range c.Edits {
			if cap(x.Changes) != len(x.Changes) {
				t.Errorf("%q: there is room behind the changes", s)
			}
		}
	}
}

// P26.2: texts that are nearly commands'.
func TestReadWrong(t *testing.T) {
	for _, s := range []string{
		"", " ", ";", " ; ", " ;", "; ", "\n", "\x00", "=", "none", "help", "batch", "batch drop " + noughts, "say 1 watch", noughts,
		"watch ", " watch", "watch watch", "watch 1", "watch " + noughts, "Watch", "WATCH", "watc", "watchs", "watch\n", "watch\x00", "watch;", "watch ;", "watch ; watch",
		"quit ", " quit", "quit 1", "Quit", "QUIT", "quit quit", "quit ; quit", "quit\t",
		"show", "show ", "show none", "show  " + noughts, " show " + noughts, "show " + noughts + " ", "show " + noughts + " " + noughts, "show " + noughts[1:], "show A" + noughts,
		"show =" + noughts[1:], "show " + noughts[:42] + "B=", "show !" + noughts[1:], "show " + strings.ToLower(noughts[:43]), "Show " + noughts, "SHOW " + noughts, "show key=" + noughts,
		"show=" + noughts, "show\t" + noughts, "show " + noughts + " ; show " + noughts, "show " + noughts + " keep=0", "shows " + noughts, "show 1",
		"dump", "dump ", "next", "next ", "next 5 5", "dump 5 5", "next  5", "dump  5", "next 5 ", "dump 5 ", " next 5", " dump 5", "Next 5", "Dump 5", "NEXT 5", "next 5 ; next 5", "dump all", "next all",
		"drop " + noughts + " ; watch", "watch ; drop " + noughts, "drop " + noughts + " ; show " + noughts, "show " + noughts + " ; drop " + noughts, "drop " + noughts + " ; quit", "drop " + noughts + " ; next 1",
	} {
		noRead(t, s)
	}
	for _, n := range []string{"0", "00", "01", "05", "016", "+5", "-5", "-0", "5.0", "5,", "0x5", "a", "５", "5 5", "65", "066", "100", "1000", "18446744073709551616", "18446744073709551617", "99999999999999999999999", strconv.Itoa(math.MaxInt64)} {
		noRead(t, "dump "+n)
		noRead(t, "next "+n)
	}
	for n := range 300 {
		s := strconv.Itoa(n)
		for name, most := range map[string]int{"dump ": 16, "next ": 64} {
			c, e := proto.Read(name + s)
			if want := n >= 1 && n <= most; (e == api.OK) != want || want && c.Size != n || !want && (e != api.ErrLine || !isZero(c)) {
				t.Errorf("%s%s: %v %v", name, s, c, e)
			}
		}
	}
}

// P26.2: texts that are nearly edits'.
func TestReadWrongEdits(t *testing.T) {
	k, l := noughts, kw(1)
	for _, s := range []string{
		"add", "add ", "add  " + k, " add " + k, "add " + k + " ", "add " + k + "  keep=0", "add " + k + " keep=0 ", "add " + k + " keep=0  keep=1", "add\t" + k, "add " + k + "\tkeep=0", "add " + k + "\n",
		"Add " + k, "ADD " + k, "aDd " + k, "adds " + k, "ad " + k, "add=" + k, "add " + k + k, "add " + k + " " + l, "add keep=0 " + k, "add keep=0", "add " + k + " keep=00", "add " + k + " keep=05", "add " + k + " keep=65536",
		"add " + k + " Keep=0", "add " + k + " KEEP=0", "add " + k + " keep", "add " + k + " keep=", "add " + k + " x", "add " + k + " keep=0 x", "add " + k + " x keep=0", "add " + k + " x=1", "add " + k + " keep=0,keep=1",
		"add " + k + " route=10.0.0.0/8", "add " + k + " route=+10.0.0.1/8", "add " + k + " route=+10.0.0.0/33", "add " + k + " route=+A::/16", "add " + k + " routes=10.0.0.0/8", "add " + k + " end=1", "add " + k + " end=[FE80::1]:1",
		"add " + k + " shared=" + k[1:], "add " + k + " public=" + k, "add " + k[1:], "add A" + k, "add !" + k[1:], "add " + k[:42] + "B=", "add " + strings.Repeat("A", 44), "add 10.0.0.0/8 " + k, "add " + k + keepTexts(9), "add " + k + keepTexts(10), "add " + k + keepTexts(3000),
		"alter", "alter " + k, "alter " + k + " ", "alter  " + k + " keep=0", "alter " + k + " x", "alter " + k + keepTexts(9), "alter " + k + keepTexts(10), "Alter " + k + " keep=0", "alter keep=0", "alter keep=0 " + k, "alter " + k + " " + l + " keep=0",
		"drop", "drop ", "drop  " + k, "drop " + k + " ", "drop " + k + " keep=0", "drop " + k + " " + l, "Drop " + k, "DROP " + k, "drop " + k[1:], "drop " + k[:43], "drop x", "drop 10.0.0.0/8", "drop 10.0.0.0/8 " + k,
		"move", "move ", "move " + k, "move 10.0.0.0/8", "move 10.0.0.0/8 ", "move 10.0.0.0/8  " + k, "move  10.0.0.0/8 " + k, "move " + k + " 10.0.0.0/8", "move 10.0.0.0/8 " + k + " ", "move 10.0.0.0/8 " + k + " " + l, "Move 10.0.0.0/8 " + k,
		"move +10.0.0.0/8 " + k, "move route=+10.0.0.0/8 " + k, "move 10.0.0.0 " + k, "move 10.0.0.0/08 " + k, "move 10.0.0.0/33 " + k, "move 10.0.0.1/8 " + k, "move 010.0.0.0/8 " + k, "move 0::/0 " + k, "move ::0/0 " + k, "move A::/16 " + k,
		"move 2001:DB8::/32 " + k, "move 0:0:0:0:0:0:0:0/0 " + k, "move ::/129 " + k, "move ::/ " + k, "move / " + k, "move x " + k, "move 10.0.0.0/8,11.0.0.0/8 " + k, "move 10.0.0.0/8 11.0.0.0/8 " + k, "move 10.0.0.0/8 " + k[1:], "move 10.0.0.0/8 x",
		"move 0.0.0.0/0", "move  " + k, "move x " + k,
		"roll", "roll ", "roll " + k, "roll " + k + " ", "roll " + k + " " + k, "roll " + l + " " + l, "roll " + k + "  " + l, "roll  " + k + " " + l, "roll " + k + " " + l + " ", "roll " + k + " " + l + " " + l, "roll " + k + " " + l + " keep=0", "Roll " + k + " " + l,
		"roll " + k + " " + l[1:], "roll " + k[1:] + " " + l, "roll " + k + " x", "roll x " + l, "roll " + k + "," + l, "roll " + k + "=" + l, "roll " + k + ";" + l,
	} {
		noRead(t, s)
		noRead(t, s+" ; drop "+l)
		noRead(t, "drop "+l+" ; "+s)
		noRead(t, dropTexts(3)+" ; "+s+" ; "+dropTexts(4))
	}
}

// P26.2: what stands between edits, and how many there are.
func TestReadBetween(t *testing.T) {
	a, b := "drop "+kw(1), "add "+kw(2)+" keep=5"
	for _, between := range []string{"", " ", ";", "; ", " ;", "  ; ", " ;  ", "  ;  ", " ;; ", " ; ; ", " ; ;", "; ; ", " , ", " ;\t", "\t; ", "\n", " \n ", " ;\n", " : ", " | ", " ；"} {
		noRead(t, a+between+b)
		noRead(t, b+between+a)
		noRead(t, a+" ; "+b+between+b)
	}
	if c, e := proto.Read(a + " ; " + b); e != api.OK || !equal(c, proto.Command{Verb: proto.Batch, Edits: []proto.Edit{{Verb: proto.Drop, Key: key(1)},
		{Verb: proto.Add, Key: key(2), Changes: []record.Change{{Kind: record.SetKeep, Keep: 5}}}}}) {
		t.Errorf("%v %v", c, e)
	}
	for _, s := range []string{a + " ; ", a + " ;", a + ";", a + " ", " ; " + a, "; " + a, ";" + a, " " + a, a + " ; " + b + " ; ", " ; " + a + " ; " + b} {
		noRead(t, s)
	}
	for n := range 1300 {
		s := dropTexts(n)
		if n >= 1 && n <= 8 {
			if c, e := proto.Read(s); e != api.OK || !equal(c, proto.Command{Verb: proto.Batch, Edits: drops(n)}) {
				t.Errorf("%d edits: %v %v", n, c, e)
			}
			continue
		}
		noRead(t, s)
	}
}

// P26.2 and P1: texts of MaxText bytes, of one more, and of many more.
func TestReadLong(t *testing.T) {
	fronts := []string{"", "watch", "quit ", "show ", "dump ", "next ", "add ", "drop ", "add " + noughts, "add " + noughts + " ", "drop " + noughts, "drop " + noughts + " ; ", "move ", "move 10.0.0.0/8 ", "roll " + noughts + " ", dropTexts(8), dropTexts(8) + " ; "}
	for _, n := range []int{api.MaxText - 1, api.MaxText, api.MaxText + 1, 1 << 20} {
		for _, s := range []string{" ", ";", " ; ", "A", "1", "0", "=", "/", ":", ",", "\x00", "é", "add ", "keep=0 ", "watch", "drop " + noughts + " ; "} {
			for _, front := range fronts {
				long := front + strings.Repeat(s, n/len(s)+1)
				noRead(t, long[:n])
			}
		}
	}
}

// Rule 5: what is handed out is new memory, and so is each list in it.
func TestReadMemory(t *testing.T) {
	s := "add " + kw(1) + keepTexts(3) + " ; alter " + kw(2) + keepTexts(3) + " ; drop " + kw(3)
	c, _ := proto.Read(s)
	d, _ := proto.Read(s)
	want := copied(c)
	_ = append(c.Edits[0].Changes, record.Change{Kind: 99})
	_ = append(c.Edits[:1], proto.Edit{Verb: 99})
	for i := range c.Edits[0].Changes {
		c.Edits[0].Changes[i] = record.Change{Kind: 99}
	}
	if !slices.Equal(c.Edits[2].Changes, want.Edits[2].Changes) || !slices.Equal(want.Edits[1].Changes, d.Edits[1].Changes) {
		t.Errorf("lists of one answer are shared")
	}
	clear(c.Edits)
	if !equal(d, want) {
		t.Errorf("two answers share a list")
	}
}

// P26.3: Answer.
func TestAnswer(t *testing.T) {
	for _, l := range [][]string{nil, {}, {"x"}, {"x", "y"}, {""}, {"error", "5"}, {"a b", " "}} {
		for _, e := range []api.Errno{1, 2, 3, 4, 5, 6, 7, 10, 99, 100, 101, 102, 103, 110, 111, 1000000} {
			if s := proto.Answer(e, l); s != "error "+strconv.Itoa(int(e)) {
				t.Errorf("%d with %q: %q", int(e), l, s)
			}
		}
	}
	for _, x := range []struct {
		e     api.Errno
		words []string
		want  string
	}{
		{api.OK, nil, "ok"}, {api.OK, []string{}, "ok"}, {api.OK, []string{"x"}, "ok x"}, {api.OK, []string{"version=1"}, "ok version=1"}, {api.OK, []string{"a", "b", "c"}, "ok a b c"},
		{api.OK, []string{"ok"}, "ok ok"}, {api.OK, []string{"error", "5"}, "ok error 5"}, {api.OK, []string{"a", "a"}, "ok a a"}, {api.OK, []string{""}, "ok "}, {api.OK, []string{"", ""}, "ok  "}, {api.OK, []string{"a b"}, "ok a b"},
		{-1, nil, "error -1"}, {-1, []string{"x"}, "error -1"}, {math.MinInt, nil, "error " + strconv.Itoa(math.MinInt)}, {math.MaxInt, nil, "error " + strconv.Itoa(math.MaxInt)},
	} {
		if s := proto.Answer(x.e, x.words); s != x.want {
			t.Errorf("%d with %q: %q, want %q", int(x.e), x.words, s, x.want)
		}
	}
}

// P26.3 and rule 4: what is handed in is not changed; what lies behind a list's length is neither read nor written.
func TestAnswerLists(t *testing.T) {
	l := []string{"a", "b", "c", "d"}
	for n := range 5 {
		if s := proto.Answer(api.OK, l[:n]); s != strings.Join(append([]string{"ok"}, l[:n]...), " ") || !slices.Equal(l, []string{"a", "b", "c", "d"}) {
			t.Errorf("%d words: %q, %q", n, s, l)
		}
	}
}

// P26.3: Word.
func TestWord(t *testing.T) {
	kinds := map[int]string{vstore.Added: "added", vstore.Changed: "changed", vstore.Removed: "removed"}
	for _, kind := range []int{vstore.Added, vstore.Changed, vstore.Removed, 0, -1, 4, 5, 257, math.MinInt, math.MaxInt} {
		for _, k := range []api.Key{{}, key(1), {31: 1}} {
			for _, v := range []uint64{0, 1, 9, 10, 1 << 40, math.MaxUint64} {
				i := feed.Item{Event: vstore.Event{Kind: kind, Key: k, Version: v}}
				want := "lost=0"
				if name, there := kinds[kind]; there {
					want = name + "=" + word(k) + "@" + strconv.FormatUint(v, 10)
				}
				if s := proto.Word(i); s != want {
					t.Errorf("%v: %q, want %q", i, s, want)
				}
				// A gap is whatever has a Lost above 0, also if its event is not the zero one.
				for _, n := range []uint64{1, 2, 10, 1 << 63, math.MaxUint64} {
					i.Lost = n
					if s := proto.Word(i); s != "lost="+strconv.FormatUint(n, 10) {
						t.Errorf("%v: %q", i, s)
					}
				}
			}
		}
	}
	if s := proto.Word(feed.Item{}); s != "lost=0" {
		t.Errorf("the zero item: %q", s)
	}
	if s := proto.Word(feed.Item{Event: vstore.Event{Kind: vstore.Added, Version: 1}}); s != "added="+noughts+"@1" {
		t.Errorf("the document's seventh example: %q", s)
	}
}

// P26.3: the words of what a feed tells of commits.
func TestWordsOfFeed(t *testing.T) {
	s, f := vstore.New(), feed.New()
	f.Watch()
	for _, w := range []vstore.Write{{Peer: record.Peer{Public: key(1)}}, {Peer: record.Peer{Public: key(1), Keep: 5}}, {Peer: record.Peer{Public: key(1)}, Gone: true}} {
		_, l, _ := s.Commit(nil, []vstore.Write{w})
		f.Push(l)
	}
	f.Push(make([]vstore.Event, 15))
	var words []string
	l, _ := f.Take(1, 99)
	for _, i := range slices.Concat(l[:3], l[15:]) {
		words = append(words, proto.Word(i))
	}
	if want := []string{"added=" + kw(1) + "@1", "changed=" + kw(1) + "@2", "removed=" + kw(1) + "@3", "lost=0", "lost=2"}; !slices.Equal(words, want) {
		t.Errorf("%q, want %q", words, want)
	}
}

// spoiled are texts that one byte, or a piece, tells from a text.
func spoiled(r *rand.Rand, s string) []string {
	const bytes = " ;=,/.:+-@[]019afABnadp"
	var out []string
	for range 40 {
		b := []byte(s)
		i, j := r.IntN(len(b)), r.IntN(len(b))
		switch r.IntN(7) {
		case 0:
			b[i] = byte(r.IntN(256))
		case 1:
			b[i] = bytes[r.IntN(len(bytes))]
		case 2:
			b = slices.Delete(b, i, i+1)
		case 3:
			b = slices.Insert(b, i, bytes[r.IntN(len(bytes))])
		case 4:
			b[i], b[j] = b[j], b[i]
		case 5:
			b = slices.Delete(b, min(i, j), max(i, j))
		case 6:
			row := strings.Split(s, " ")
			i, j := r.IntN(len(row)), r.IntN(len(row))
			row[i], row[j] = row[j], row[i]
			b = []byte(strings.Join(row, " "))
		}
		out = append(out, string(b))
	}
	return out
}

// randomKey is a key, one of few or any.
func randomKey(r *rand.Rand) api.Key {
	if r.IntN(2) == 0 {
		return key(r.IntN(4))
	}
	var out api.Key
	for i := range out {
		out[i] = byte(r.IntN(256))
	}
	return out
}

// randomPrefix is a prefix that may be.
func randomPrefix(r *rand.Rand) api.Prefix {
	a := api.Addr{Six: r.IntN(2) == 0}
	size := 4
	if a.Six {
		size = 16
	}
	for i := range size {
		a.B[i] = byte(r.IntN(3)) << r.IntN(8)
	}
	p, e := cidr.Mask(api.Prefix{Addr: a, Bits: r.IntN(8*size + 1)})
	if e != api.OK {
		panic(e)
	}
	return p
}

// randomEdit is an edit that may be.
func randomEdit(r *rand.Rand) proto.Edit {
	e := proto.Edit{Verb: 1 + r.IntN(5), Key: randomKey(r)}
	switch e.Verb {
	case proto.Add, proto.Alter:
		all, _ := changes()
		for range r.IntN(9) {
			e.Changes = append(e.Changes, all[r.IntN(len(all))])
		}
		if len(e.Changes) == 0 {
			e.Verb = proto.Add
		}
	case proto.Move:
		e.Prefix = randomPrefix(r)
	case proto.Roll:
		e.Fresh = randomKey(r)
		if e.Fresh == e.Key {
			e.Fresh[31]++
		}
	}
	return e
}

// randomCommand is a command that may be.
func randomCommand(r *rand.Rand) proto.Command {
	c := proto.Command{Verb: 1 + r.IntN(6)}
	if r.IntN(2) == 0 {
		c.Verb = proto.Batch
	}
	switch c.Verb {
	case proto.Batch:
		for range 1 + r.IntN(8) {
			c.Edits = append(c.Edits, randomEdit(r))
		}
	case proto.Show:
		c.Key = randomKey(r)
	case proto.Dump:
		c.Size = 1 + r.IntN(16)
	case proto.Next:
		c.Size = 1 + r.IntN(64)
	}
	return c
}

// P26.4 and P2: commands go there and back, in one way alone.
func TestThereAndBack(t *testing.T) {
	r := rand.New(rand.NewPCG(26, 4))
	seen := map[string]proto.Command{}
	for range 3000 {
		c := randomCommand(r)
		s, e := proto.Write(c)
		d, f := proto.Read(s)
		if e != api.OK || f != api.OK || !equal(c, d) || !proto.Same(c, d) || !proto.Right(c) {
			t.Fatalf("%v: %q %v, %v %v", c, s, e, d, f)
		}
		if other, there := seen[s]; there && !equal(other, c) {
			t.Fatalf("%q is the text of two", s)
		}
		seen[s] = c
		for _, x := range spoiled(r, s) {
			d, e := proto.Read(x)
			if e == api.OK {
				if back, _ := proto.Write(d); back != x || x != s && equal(c, d) || !proto.Right(d) {
					t.Fatalf("%q is read, but %q is written", x, back)
				}
			} else if e != api.ErrLine || !isZero(d) {
				t.Fatalf("%q: %v %v", x, d, e)
			}
		}
	}
}

// P26.5: an answer is one line of words, which are read as they were, if they have no blank.
func TestAnswerReads(t *testing.T) {
	r := rand.New(rand.NewPCG(26, 5))
	for range 3000 {
		var words []string
		for range r.IntN(20) {
			switch r.IntN(3) {
			case 0:
				words = append(words, proto.Word(feed.Item{Event: vstore.Event{Kind: r.IntN(5), Key: randomKey(r), Version: r.Uint64()}, Lost: uint64(r.IntN(2)) * r.Uint64()}))
			case 1:
				words = append(words, word(randomKey(r)))
			case 2:
				words = append(words, "version="+strconv.Itoa(r.IntN(1000)))
			}
		}
		s := proto.Answer(api.OK, words)
		if got := strings.Split(s, " "); got[0] != "ok" || !slices.Equal(got[1:], words) || strings.Contains(s, "\n") {
			t.Fatalf("%q: %q", words, s)
		}
		e := api.Errno(1 + r.IntN(200))
		if got := strings.Split(proto.Answer(e, words), " "); !slices.Equal(got, []string{"error", strconv.Itoa(int(e))}) {
			t.Fatalf("%v: %q", e, got)
		}
	}
}

// P26.5: a text of a Read that fails is answered by its error alone, one that is right is not an answer.
func TestAnswersAreNoCommands(t *testing.T) {
	for e := range api.Errno(120) {
		noRead(t, proto.Answer(e, []string{"watch"}))
	}
	all, _ := commands()
	for _, c := range all {
		s, _ := proto.Write(c)
		noRead(t, proto.Answer(api.OK, []string{s}))
	}
}
