package cidr_test

import (
	"math"
	"math/rand/v2"
	"net/netip"
	"slices"
	"strconv"
	"strings"
	"testing"

	"adit/api"
	"adit/cidr"
)

// four is an address of IPv4.
func four(a, b, c, d byte) api.Addr { return api.Addr{B: [16]byte{a, b, c, d}} }

// six is an address of IPv6.
func six(groups ...uint16) api.Addr {
	out := api.Addr{Six: true}
	for i, v := range groups {
		out.B[2*i], out.B[2*i+1] = byte(v>>8), byte(v)
	}
	return out
}

// bytesOf is an address of IPv6 whose bytes each are greater by step than the one ahead.
func bytesOf(step, first int) api.Addr {
	out := api.Addr{Six: true}
	for i := range out.B {
		out.B[i] = byte(i*step + first)
	}
	return out
}

// addrs are addresses that may be.
func addrs() []api.Addr {
	return []api.Addr{{}, four(0, 0, 0, 1), four(1, 2, 3, 4), four(10, 0, 0, 0), four(10, 1, 2, 3), four(127, 0, 0, 1), four(128, 0, 0, 0),
		four(192, 168, 100, 200), four(255, 255, 255, 255), four(0x55, 0x55, 0x55, 0x55), four(0xaa, 0xaa, 0xaa, 0xaa),
		six(), six(0, 0, 0, 0, 0, 0, 0, 1), six(1), six(0x2001, 0xdb8), six(0x2001, 0xdb8, 0, 1, 0, 0, 0, 9), six(0x8000), six(0xfe80, 0, 0, 0, 1, 2, 3, 4),
		six(1, 2, 3, 4, 5, 6, 7, 8), six(1, 0, 0, 2, 0, 0, 0, 3), six(1, 0, 0, 2, 3, 0, 0, 4), six(0, 0, 0, 0, 0, 0xffff, 0x102, 0x304),
		six(0, 0, 0, 0, 0, 0, 0x102, 0x304), six(0, 1, 0, 2, 0, 3, 0, 4), bytesOf(0, 255), bytesOf(1, 0), bytesOf(7, 1), bytesOf(0, 0x55), bytesOf(0, 0xaa)}
}

// wrongAddrs are addresses that may not be.
func wrongAddrs() []api.Addr {
	var out []api.Addr
	for i := 4; i < 16; i++ {
		for _, v := range []byte{1, 128, 255} {
			a := four(10, 0, 0, 0)
			a.B[i] = v
			out = append(out, a)
		}
	}
	none := bytesOf(0, 255)
	none.Six = false
	return append(out, none)
}

// digits is how many digits an address has.
func digits(a api.Addr) int {
	if a.Six {
		return 128
	}
	return 32
}

// counts are numbers of digits, about the edges and far beyond them.
func counts() []int {
	out := []int{math.MinInt, math.MinInt + 1, math.MinInt32, -129, -128, -33, -32, -8, 256, 512, 1 << 32, 1<<32 + 8, math.MaxInt - 1, math.MaxInt}
	for n := -2; n <= 131; n++ {
		out = append(out, n)
	}
	return out
}

// digit is an address' digit, told by division.
func digit(a api.Addr, n int) int {
	v := int(a.B[n/8])
	for range 7 - n%8 {
		v /= 2
	}
	return v % 2
}

// turned is an address with a digit turned.
func turned(a api.Addr, n int) api.Addr {
	a.B[n/8] ^= 128 >> (n % 8)
	return a
}

// fits tells whether there may be a prefix of so many digits of an address that may be.
func fits(a api.Addr, bits int) bool { return bits >= 0 && bits <= digits(a) }

// front is an address whose digits behind the first ones are made 0, one by one.
func front(a api.Addr, bits int) api.Addr {
	for n := bits; n < digits(a); n++ {
		if digit(a, n) == 1 {
			a = turned(a, n)
		}
	}
	return a
}

// wantText holds an address' text.
func wantText(t *testing.T, a api.Addr, want string) {
	t.Helper()
	if s, e := cidr.Print(a); s != want || e != api.OK {
		t.Errorf("Print(%v): %q %v, want %q", a, s, e, want)
	}
}

// wantAddr holds that a text is read as an address.
func wantAddr(t *testing.T, s string, want api.Addr) {
	t.Helper()
	if a, e := cidr.Parse(s); a != want || e != api.OK {
		t.Errorf("Parse(%q): %v %v, want %v", s, a, e, want)
	}
}

// wantNoAddr holds that a text is no address'.
func wantNoAddr(t *testing.T, s string) {
	t.Helper()
	if a, e := cidr.Parse(s); a != (api.Addr{}) || e != api.ErrAddr {
		t.Errorf("Parse(%q): %v %v", s, a, e)
	}
}

// P11.1: Right.
func TestRight(t *testing.T) {
	for _, a := range addrs() {
		if !cidr.Right(a) {
			t.Errorf("%v is told to be none", a)
		}
	}
	for _, a := range wrongAddrs() {
		if cidr.Right(a) {
			t.Errorf("%v is told to be one", a)
		}
		a.Six = true
		if !cidr.Right(a) {
			t.Errorf("%v is told to be none", a)
		}
	}
}

// P11.1: Print of IPv4.
func TestPrintFour(t *testing.T) {
	wantText(t, api.Addr{}, "0.0.0.0")
	wantText(t, four(1, 2, 3, 4), "1.2.3.4")
	wantText(t, four(10, 0, 0, 1), "10.0.0.1")
	wantText(t, four(192, 168, 100, 9), "192.168.100.9")
	wantText(t, four(255, 255, 255, 255), "255.255.255.255")
	for at := range 4 {
		for v := range 256 {
			a := four(1, 1, 1, 1)
			a.B[at] = byte(v)
			parts := []string{"1", "1", "1", "1"}
			parts[at] = strconv.Itoa(v)
			wantText(t, a, strings.Join(parts, "."))
		}
	}
}

// P11.1: Print of IPv6, and the chapter's example.
func TestPrintSix(t *testing.T) {
	wantText(t, six(0, 0, 0, 0, 0, 0, 0, 1), "::1")
	wantText(t, six(), "::")
	wantText(t, six(1), "1::")
	wantText(t, six(1, 2, 3, 4, 5, 6, 7, 8), "1:2:3:4:5:6:7:8")
	wantText(t, bytesOf(0, 255), "ffff:ffff:ffff:ffff:ffff:ffff:ffff:ffff")
	wantText(t, six(0xabcd, 0xef01, 0x2345, 0x6789, 0xa, 0xbc, 0xdef, 0x1000), "abcd:ef01:2345:6789:a:bc:def:1000")
	wantText(t, six(0x10, 0x100, 0x1000, 0x101, 0x1001, 0xf00f, 0x0f0, 0x00f), "10:100:1000:101:1001:f00f:f0:f")
	// One group alone is not left out.
	wantText(t, six(0, 2, 3, 4, 5, 6, 7, 8), "0:2:3:4:5:6:7:8")
	wantText(t, six(1, 2, 3, 0, 5, 6, 7, 8), "1:2:3:0:5:6:7:8")
	wantText(t, six(1, 2, 3, 4, 5, 6, 7, 0), "1:2:3:4:5:6:7:0")
	wantText(t, six(0, 1, 0, 1, 0, 1, 0, 1), "0:1:0:1:0:1:0:1")
	// Two are, at each place.
	wantText(t, six(0, 0, 3, 4, 5, 6, 7, 8), "::3:4:5:6:7:8")
	wantText(t, six(1, 2, 3, 0, 0, 6, 7, 8), "1:2:3::6:7:8")
	wantText(t, six(1, 2, 3, 4, 5, 6, 0, 0), "1:2:3:4:5:6::")
	// Of rows the longest one, of those the first one.
	wantText(t, six(1, 0, 0, 2, 0, 0, 0, 3), "1:0:0:2::3")
	wantText(t, six(1, 0, 0, 0, 2, 0, 0, 3), "1::2:0:0:3")
	wantText(t, six(1, 0, 0, 2, 3, 0, 0, 4), "1::2:3:0:0:4")
	wantText(t, six(0, 0, 1, 0, 0, 1, 0, 0), "::1:0:0:1:0:0")
	wantText(t, six(0, 0, 1, 0, 0, 0, 1, 1), "0:0:1::1:1")
	wantText(t, six(0, 0, 0, 1, 1, 0, 0, 0), "::1:1:0:0:0")
	wantText(t, six(0, 1, 0, 0, 1, 0, 0, 0), "0:1:0:0:1::")
	// Of IPv6 there is one sort of text alone.
	wantText(t, six(0, 0, 0, 0, 0, 0xffff, 0x102, 0x304), "::ffff:102:304")
	wantText(t, six(0, 0, 0, 0, 0, 0, 0x102, 0x304), "::102:304")
}

// P11.1: Print of noughts at each of the groups, against another program's.
func TestPrintSixOfEachRow(t *testing.T) {
	for noughts := range 256 {
		var groups [8]uint16
		for i := range groups {
			if noughts>>i&1 == 0 {
				groups[i] = uint16(0x1f) << (3 * (i % 4))
			}
		}
		a := six(groups[:]...)
		wantText(t, a, netip.AddrFrom16(a.B).String())
	}
	for v := range 1 << 16 {
		wantText(t, six(uint16(v), 1, 1, 1, 1, 1, 1, 1), strconv.FormatInt(int64(v), 16)+":1:1:1:1:1:1:1")
	}
}

// P11.1: what may not be has no text.
func TestPrintOfWrongAddresses(t *testing.T) {
	for _, a := range wrongAddrs() {
		if s, e := cidr.Print(a); s != "" || e != api.ErrAddr {
			t.Errorf("Print(%v): %q %v", a, s, e)
		}
	}
}

// P11.1: Parse of IPv4.
func TestParseFour(t *testing.T) {
	wantAddr(t, "0.0.0.0", api.Addr{})
	wantAddr(t, "10.0.0.1", four(10, 0, 0, 1))
	wantAddr(t, "255.255.255.255", four(255, 255, 255, 255))
	for v := range 1000 {
		for at, s := range []string{"N.2.3.4", "1.N.3.4", "1.2.N.4", "1.2.3.N"} {
			s = strings.Replace(s, "N", strconv.Itoa(v), 1)
			if v > 255 {
				wantNoAddr(t, s)
				continue
			}
			a := four(1, 2, 3, 4)
			a.B[at] = byte(v)
			wantAddr(t, s, a)
		}
	}
}

// P11.1: texts that are no address of IPv4.
func TestParseOfWrongFours(t *testing.T) {
	for _, s := range []string{"", " ", ".", "...", "1", "1.2", "1.2.3", "1.2.3.", ".1.2.3", "1..2.3", "1.2..3", "1.2.3.4.", ".1.2.3.4", "1.2.3.4.5", "1.2.3..4",
		"01.2.3.4", "1.02.3.4", "1.2.003.4", "1.2.3.00", "1.2.3.04", "00.0.0.0", "1.2.3.256", "256.2.3.4", "1.2.3.1000", "1.2.3.4294967297",
		"1.2.3.18446744073709551616", "1.2.3.18446744073709551617", "1.2.3.-4", "-1.2.3.4", "+1.2.3.4", "1.2.3.+4", " 1.2.3.4", "1.2.3.4 ", "1. 2.3.4",
		"1.2.3.4\n", "1.2.3.4\x00", "1.2.3.a", "a.b.c.d", "1.2.3.0x4", "0x1.2.3.4", "1,2,3,4", "1.2.3.4/32", "1.2.3.4/", "1.2.3.4%0", "[1.2.3.4]", "1.2.3.4:", "1.2.3.4:5",
		"16909060", "0x01020304", "1.2.772", "1.2.3.٤", "1.2.3.4é", "localhost", "1_0.2.3.4", "1e1.2.3.4"} {
		wantNoAddr(t, s)
	}
}

// P11.1: Parse of IPv6.
func TestParseSix(t *testing.T) {
	wantAddr(t, "::", six())
	wantAddr(t, "::1", six(0, 0, 0, 0, 0, 0, 0, 1))
	wantAddr(t, "1::", six(1))
	wantAddr(t, "1:2:3:4:5:6:7:8", six(1, 2, 3, 4, 5, 6, 7, 8))
	wantAddr(t, "0:0:0:0:0:0:0:0", six())
	wantAddr(t, "0:0:0:0:0:0:0:1", six(0, 0, 0, 0, 0, 0, 0, 1))
	// Large letters, and noughts ahead of a group's digits.
	wantAddr(t, "ABCD:EF:aBcD:FfFf::", six(0xabcd, 0xef, 0xabcd, 0xffff))
	wantAddr(t, "0001:0020:0300:4000:000a:00b:0c:d", six(1, 0x20, 0x300, 0x4000, 0xa, 0xb, 0xc, 0xd))
	wantAddr(t, "0000:000:00:0:0000::", six())
	wantAddr(t, "0000::0000", six())
	wantAddr(t, "0000:0000:0000:0000:0000:0000:0000:0000", six())
	wantAddr(t, "FFFF:FFFF:FFFF:FFFF:FFFF:FFFF:FFFF:FFFF", bytesOf(0, 255))
	// A row of one group, a row that is not the longest, a piece of a row, none.
	wantAddr(t, "::2:3:4:5:6:7:8", six(0, 2, 3, 4, 5, 6, 7, 8))
	wantAddr(t, "1::3:4:5:6:7:8", six(1, 0, 3, 4, 5, 6, 7, 8))
	wantAddr(t, "1:2:3:4:5:6:7::", six(1, 2, 3, 4, 5, 6, 7))
	wantAddr(t, "1::2:0:0:0:3", six(1, 0, 0, 2, 0, 0, 0, 3))
	wantAddr(t, "1:0:0:2::3", six(1, 0, 0, 2, 0, 0, 0, 3))
	wantAddr(t, "1:0::0:3", six(1, 0, 0, 0, 0, 0, 0, 3))
	wantAddr(t, "0::", six())
	wantAddr(t, "::0", six())
	wantAddr(t, "0:0:0:0:0:0:0::", six())
	wantAddr(t, "1:0:0:2:0:0:0:3", six(1, 0, 0, 2, 0, 0, 0, 3))
}

// P11.1: texts that are no address of IPv6.
func TestParseOfWrongSixes(t *testing.T) {
	for _, s := range []string{":", ":::", "::::", ":1", "1:", "1:2", "1:2:3:4:5:6:7", "1:2:3:4:5:6:7:", ":1:2:3:4:5:6:7", ":2:3:4:5:6:7:8", "1:2:3:4:5:6:7:8:",
		":1:2:3:4:5:6:7:8", "1:2:3:4:5:6:7:8:9", "1:2:3:4:5:6:7:8::", "::1:2:3:4:5:6:7:8", "1:2:3:4::5:6:7:8", "1::2:3:4:5:6:7:8", "0:0:0:0:0:0:0:0::",
		"1:2:3:4:5:6:7:8:9::", "::1:2:3:4:5:6:7:8:9", "1:2:3:4:5::6:7:8:9", "1::2::3", "::1::", "::::1", ":::1", "1:::", "1:::2", "::1:", ":1::", "1::2:", ":1::2",
		"00001::", "::00000", "1:2:3:4:5:6:7:00008", "12345::", "::fffff", "g::", "::g", "::G", "::-1", "::+1", "::0x1", "::1_0", ":: 1", " ::1", "::1 ", "::1\n", "::\x00",
		"::1%0", "fe80::1%eth0", "[::1]", "[::1", "::1]", "::1/128", "::1/", "::1.2.3.4", "::ffff:1.2.3.4", "::ffff:1.2.3.04", "1:2:3:4:5:6:1.2.3.4", "64:ff9b::1.2.3.4", "1.2.3.4::",
		"::.", "1.2:3.4", "::é", "::１", "1;2", "::1,", "1::2/64"} {
		wantNoAddr(t, s)
	}
}

// P11.1: a row of noughts left out anywhere, or none.
func TestParseWithEachRowLeftOut(t *testing.T) {
	parts := []string{"1", "20", "300", "4000", "A", "bc", "Def", "f00F"}
	values := []uint16{1, 0x20, 0x300, 0x4000, 0xa, 0xbc, 0xdef, 0xf00f}
	wantAddr(t, strings.Join(parts, ":"), six(values...))
	for from := range 9 {
		for to := from; to <= 8; to++ {
			groups := slices.Clone(values)
			clear(groups[from:to])
			s := strings.Join(parts[:from], ":") + "::" + strings.Join(parts[to:], ":")
			if from == to {
				wantNoAddr(t, s)
				continue
			}
			wantAddr(t, s, six(groups...))
			// Noughts that are written as well are one group less to leave out.
			if from+1 < to {
				wantAddr(t, strings.Join(append(slices.Clone(parts[:from]), "0"), ":")+"::"+strings.Join(parts[to:], ":"), six(groups...))
			} else {
				wantNoAddr(t, strings.Join(append(slices.Clone(parts[:from]), "0"), ":")+"::"+strings.Join(parts[to:], ":"))
			}
		}
	}
}

// read is what another program reads a text as; of those that it reads and the chapter does not, none.
func read(s string) (api.Addr, bool) {
	a, e := netip.ParseAddr(s)
	if e != nil || a.Zone() != "" || strings.Contains(s, ":") && strings.Contains(s, ".") {
		return api.Addr{}, false
	}
	if a.Is4() {
		b := a.As4()
		return four(b[0], b[1], b[2], b[3]), true
	}
	return api.Addr{Six: true, B: a.As16()}, true
}

// wantAsRead holds that a text is read as another program reads it.
func wantAsRead(t *testing.T, s string) bool {
	t.Helper()
	a, ok := read(s)
	if ok {
		wantAddr(t, s, a)
	} else {
		wantNoAddr(t, s)
	}
	return ok
}

// P11.1: made-up texts, against another program's reading.
func TestParseOfMadeUpTexts(t *testing.T) {
	draw := rand.New(rand.NewPCG(11, 1))
	parts := []string{":", ":", ":", ":", "::", ".", ".", "0", "1", "00", "12", "255", "256", "0000", "00000", "a", "F", "fFfF", "1:2:3:4", "1.2", "g"}
	good := 0
	for range 200000 {
		var s strings.Builder
		for range draw.IntN(12) {
			s.WriteString(parts[draw.IntN(len(parts))])
		}
		if wantAsRead(t, s.String()) {
			good++
		}
	}
	if good < 100 {
		t.Errorf("only %d of the texts are read", good)
	}
}

// P11.1: texts of addresses, with one byte put, taken or changed.
func TestParseOfChangedTexts(t *testing.T) {
	const alphabet = "0123456789abcdefghABCDEFG:./[]%-+ \x00\xff"
	for _, a := range addrs() {
		s, _ := cidr.Print(a)
		for at := range len(s) + 1 {
			if at < len(s) {
				wantAsRead(t, s[:at]+s[at+1:])
			}
			for _, c := range []byte(alphabet) {
				wantAsRead(t, s[:at]+string([]byte{c})+s[at:])
				if at < len(s) {
					wantAsRead(t, s[:at]+string([]byte{c})+s[at+1:])
				}
			}
		}
	}
}

// P1, P11.1: long texts are none's.
func TestLongTexts(t *testing.T) {
	for _, part := range []string{"0", "1", ".", ":", "::", "1:", "0.", "/", "/1", "[", "]", "::1", "\x00", "é"} {
		s := strings.Repeat(part, 1<<17)
		wantNoAddr(t, s)
		wantNoAddr(t, "::"+s+"g")
		wantNoAddr(t, "1.2.3."+s+"g")
		if p, e := cidr.ParsePrefix(s + "/8"); p != (api.Prefix{}) || e != api.ErrAddr {
			t.Errorf("ParsePrefix of %q many times: %v %v", part, p, e)
		}
		if p, e := cidr.ParsePrefix("::/8" + s + "g"); p != (api.Prefix{}) || e != api.ErrMask && e != api.ErrAddr {
			t.Errorf("ParsePrefix of %q many times behind: %v %v", part, p, e)
		}
		if v, e := cidr.ParseEnd(s + ":8"); v != (api.End{}) || e != api.ErrAddr {
			t.Errorf("ParseEnd of %q many times: %v %v", part, v, e)
		}
		if v, e := cidr.ParseEnd("[::]:8" + s + "g"); v != (api.End{}) || e != api.ErrArg && e != api.ErrAddr {
			t.Errorf("ParseEnd of %q many times behind: %v %v", part, v, e)
		}
	}
}

// P11.1: RightPrefix and PrintPrefix.
func TestRightPrefixAndItsText(t *testing.T) {
	for _, a := range addrs() {
		text, _ := cidr.Print(a)
		for _, bits := range counts() {
			p := api.Prefix{Addr: a, Bits: bits}
			right := fits(a, bits) && front(a, bits) == a
			if cidr.RightPrefix(p) != right {
				t.Errorf("RightPrefix(%v): %v", p, !right)
			}
			s, e := cidr.PrintPrefix(p)
			if right && (s != text+"/"+strconv.Itoa(bits) || e != api.OK) || !right && (s != "" || e != api.ErrAddr) {
				t.Errorf("PrintPrefix(%v): %q %v", p, s, e)
			}
		}
	}
	for _, a := range wrongAddrs() {
		for _, bits := range counts() {
			p := api.Prefix{Addr: a, Bits: bits}
			if s, e := cidr.PrintPrefix(p); cidr.RightPrefix(p) || s != "" || e != api.ErrAddr {
				t.Errorf("%v: %v %q %v", p, cidr.RightPrefix(p), s, e)
			}
		}
	}
}

// P11.1: ParsePrefix, and the chapter's example.
func TestParsePrefix(t *testing.T) {
	for _, c := range []struct {
		s    string
		want api.Prefix
		e    api.Errno
	}{
		{"0.0.0.0/0", api.Prefix{}, api.OK},
		{"10.0.0.0/8", api.Prefix{Addr: four(10, 0, 0, 0), Bits: 8}, api.OK},
		{"10.0.0.0/7", api.Prefix{Addr: four(10, 0, 0, 0), Bits: 7}, api.OK},
		{"10.0.0.1/32", api.Prefix{Addr: four(10, 0, 0, 1), Bits: 32}, api.OK},
		{"::/0", api.Prefix{Addr: six()}, api.OK},
		{"::1/128", api.Prefix{Addr: six(0, 0, 0, 0, 0, 0, 0, 1), Bits: 128}, api.OK},
		{"2001:DB8:0::/32", api.Prefix{Addr: six(0x2001, 0xdb8), Bits: 32}, api.OK},
		{"0000::0/00", api.Prefix{}, api.ErrMask},
		{"10.0.0.1/8", api.Prefix{}, api.ErrMask},
		{"10.0.0.1/31", api.Prefix{}, api.ErrMask},
		{"10.0.0.0/6", api.Prefix{}, api.ErrMask},
		{"10.0.0.1/0", api.Prefix{}, api.ErrMask},
		{"::1/127", api.Prefix{}, api.ErrMask},
		{"8000::/0", api.Prefix{}, api.ErrMask},
		{"0.0.0.0/33", api.Prefix{}, api.ErrMask},
		{"0.0.0.0/128", api.Prefix{}, api.ErrMask},
		{"::/129", api.Prefix{}, api.ErrMask},
		{"::/256", api.Prefix{}, api.ErrMask},
		{"::/18446744073709551616", api.Prefix{}, api.ErrMask},
		{"::/18446744073709551615", api.Prefix{}, api.ErrMask},
		{"::/9223372036854775808", api.Prefix{}, api.ErrMask},
		{"::/4294967296", api.Prefix{}, api.ErrMask},
		{"10.0.0.0", api.Prefix{}, api.ErrMask},
		{"10.0.0.0/", api.Prefix{}, api.ErrMask},
		{"::", api.Prefix{}, api.ErrMask},
		{"::/", api.Prefix{}, api.ErrMask},
		{"10.0.0.0/08", api.Prefix{}, api.ErrMask},
		{"10.0.0.0/+8", api.Prefix{}, api.ErrMask},
		{"10.0.0.0/-8", api.Prefix{}, api.ErrMask},
		{"10.0.0.0/ 8", api.Prefix{}, api.ErrMask},
		{"10.0.0.0/8 ", api.Prefix{}, api.ErrMask},
		{"10.0.0.0/8\n", api.Prefix{}, api.ErrMask},
		{"10.0.0.0/a", api.Prefix{}, api.ErrMask},
		{"10.0.0.0/0x8", api.Prefix{}, api.ErrMask},
		{"10.0.0.0/255.0.0.0", api.Prefix{}, api.ErrMask},
		{"", api.Prefix{}, api.ErrAddr},
		{"/", api.Prefix{}, api.ErrAddr},
		{"/8", api.Prefix{}, api.ErrAddr},
		{"10", api.Prefix{}, api.ErrAddr},
		{"10/8", api.Prefix{}, api.ErrAddr},
		{"10.0.0/8", api.Prefix{}, api.ErrAddr},
		{"10.0.0.0/8/8", api.Prefix{}, api.ErrAddr},
		{"10.0.0.0/8/", api.Prefix{}, api.ErrAddr},
		{"10.0.0.0//8", api.Prefix{}, api.ErrAddr},
		{"/10.0.0.0", api.Prefix{}, api.ErrAddr},
		{"10.0.0.256/99", api.Prefix{}, api.ErrAddr},
		{"10.0.0.256/a", api.Prefix{}, api.ErrAddr},
		{"10.0.0.256/", api.Prefix{}, api.ErrAddr},
		{"10.0.0.256", api.Prefix{}, api.ErrAddr},
		{":::/0", api.Prefix{}, api.ErrAddr},
		{"[::]/0", api.Prefix{}, api.ErrAddr},
		{" 10.0.0.0/8", api.Prefix{}, api.ErrAddr},
		{"10.0.0.0 /8", api.Prefix{}, api.ErrAddr},
		{"::ffff:1.2.3.4/128", api.Prefix{}, api.ErrAddr},
	} {
		if p, e := cidr.ParsePrefix(c.s); p != c.want || e != c.e {
			t.Errorf("ParsePrefix(%q): %v %v, want %v %v", c.s, p, e, c.want, c.e)
		}
	}
}

// P11.1: ParsePrefix of each number of digits.
func TestParsePrefixOfEachNumber(t *testing.T) {
	for _, a := range addrs() {
		text, _ := cidr.Print(a)
		for bits := range 300 {
			p, e := cidr.ParsePrefix(text + "/" + strconv.Itoa(bits))
			if fits(a, bits) && front(a, bits) == a {
				if p != (api.Prefix{Addr: a, Bits: bits}) || e != api.OK {
					t.Errorf("%s/%d: %v %v", text, bits, p, e)
				}
			} else if p != (api.Prefix{}) || e != api.ErrMask {
				t.Errorf("%s/%d: %v %v", text, bits, p, e)
			}
		}
	}
}

// P11.2: Mask.
func TestMask(t *testing.T) {
	if p, e := cidr.Mask(api.Prefix{Addr: four(10, 255, 255, 255), Bits: 12}); p != (api.Prefix{Addr: four(10, 240, 0, 0), Bits: 12}) || e != api.OK {
		t.Errorf("Mask of 12 digits: %v %v", p, e)
	}
	if p, e := cidr.Mask(api.Prefix{Addr: bytesOf(0, 255), Bits: 65}); p != (api.Prefix{Addr: six(0xffff, 0xffff, 0xffff, 0xffff, 0x8000), Bits: 65}) || e != api.OK {
		t.Errorf("Mask of 65 digits: %v %v", p, e)
	}
	for _, a := range addrs() {
		for _, bits := range counts() {
			p, e := cidr.Mask(api.Prefix{Addr: a, Bits: bits})
			if fits(a, bits) {
				if p != (api.Prefix{Addr: front(a, bits), Bits: bits}) || e != api.OK {
					t.Errorf("Mask of %v and %d: %v %v", a, bits, p, e)
				}
			} else if p != (api.Prefix{}) || e != api.ErrMask {
				t.Errorf("Mask of %v and %d: %v %v", a, bits, p, e)
			}
		}
	}
	for _, a := range wrongAddrs() {
		for _, bits := range counts() {
			if p, e := cidr.Mask(api.Prefix{Addr: a, Bits: bits}); p != (api.Prefix{}) || e != api.ErrAddr {
				t.Errorf("Mask of %v and %d: %v %v", a, bits, p, e)
			}
		}
	}
}

// lies tells whether an address lies in a prefix, digit by digit; both may be.
func lies(p api.Prefix, a api.Addr) bool {
	if p.Addr.Six != a.Six {
		return false
	}
	for n := range p.Bits {
		if digit(p.Addr, n) != digit(a, n) {
			return false
		}
	}
	return true
}

// P11.2: Holds.
func TestHolds(t *testing.T) {
	ten := api.Prefix{Addr: four(10, 0, 0, 0), Bits: 8}
	if !cidr.Holds(ten, four(10, 255, 0, 1)) || cidr.Holds(ten, four(11, 0, 0, 0)) || cidr.Holds(ten, four(9, 255, 255, 255)) || cidr.Holds(ten, six(0xa00)) {
		t.Error("10.0.0.0/8")
	}
	// Each kind has its own prefix of no digits.
	if !cidr.Holds(api.Prefix{}, four(1, 2, 3, 4)) || cidr.Holds(api.Prefix{}, six()) || !cidr.Holds(api.Prefix{Addr: six()}, six(1)) || cidr.Holds(api.Prefix{Addr: six()}, api.Addr{}) {
		t.Error("prefixes of no digits")
	}
	for _, a := range addrs() {
		for bits := range digits(a) + 1 {
			p := api.Prefix{Addr: front(a, bits), Bits: bits}
			for _, b := range addrs() {
				if got := cidr.Holds(p, b); got != lies(p, b) {
					t.Errorf("Holds(%v, %v): %v", p, b, got)
				}
			}
			for n := range digits(a) {
				if got := cidr.Holds(p, turned(a, n)); got != (n >= bits) {
					t.Errorf("%v, %v with the digit %d turned: %v", p, a, n, got)
				}
			}
		}
	}
}

// P11.2: what may not be holds nothing, and is held by nothing.
func TestHoldsOfWrongs(t *testing.T) {
	for _, a := range addrs() {
		for _, bits := range counts() {
			p := api.Prefix{Addr: a, Bits: bits}
			if cidr.Holds(p, a) != (fits(a, bits) && front(a, bits) == a) {
				t.Errorf("Holds(%v, its address): %v", p, cidr.Holds(p, a))
			}
		}
	}
	for _, a := range wrongAddrs() {
		for _, p := range []api.Prefix{{}, {Addr: four(10, 0, 0, 0), Bits: 8}, {Addr: four(10, 0, 0, 0), Bits: 32}, {Addr: six()}, {Addr: a}, {Addr: a, Bits: 8}, {Addr: a, Bits: 128}} {
			if cidr.Holds(p, a) {
				t.Errorf("Holds(%v, %v)", p, a)
			}
		}
		for _, bits := range counts() {
			if p := (api.Prefix{Addr: a, Bits: bits}); cidr.Holds(p, four(10, 0, 0, 0)) || cidr.Holds(p, six()) {
				t.Errorf("%v holds what may be", p)
			}
		}
	}
}

// P11.2: Bit.
func TestBit(t *testing.T) {
	for _, a := range addrs() {
		for _, n := range counts() {
			want := -1
			if n >= 0 && n < digits(a) {
				want = digit(a, n)
			}
			if got := cidr.Bit(a, n); got != want {
				t.Errorf("Bit(%v, %d): %d, want %d", a, n, got, want)
			}
		}
	}
	for _, a := range wrongAddrs() {
		for _, n := range counts() {
			if got := cidr.Bit(a, n); got != -1 {
				t.Errorf("Bit(%v, %d): %d", a, n, got)
			}
		}
	}
	a := four(128, 0, 0, 1)
	if cidr.Bit(a, 0) != 1 || cidr.Bit(a, 1) != 0 || cidr.Bit(a, 7) != 0 || cidr.Bit(a, 31) != 1 || cidr.Bit(a, 32) != -1 {
		t.Error("the edges of IPv4")
	}
	if b := six(0x8000, 0, 0, 0, 0, 0, 0, 1); cidr.Bit(b, 0) != 1 || cidr.Bit(b, 127) != 1 || cidr.Bit(b, 126) != 0 || cidr.Bit(b, 128) != -1 {
		t.Error("the edges of IPv6")
	}
}

// rising are prefixes, also such as may not be, each ahead of the next one.
func rising() []api.Prefix {
	wrong := func(last byte) api.Addr {
		a := four(10, 0, 0, 0)
		a.B[15] = last
		return a
	}
	return []api.Prefix{
		{Bits: math.MinInt}, {Bits: -1}, {}, {Bits: 1}, {Bits: 32}, {Bits: 33}, {Bits: math.MaxInt},
		{Addr: api.Addr{B: [16]byte{15: 1}}}, {Addr: four(0, 0, 0, 1), Bits: 32}, {Addr: four(0, 0, 1, 0), Bits: 24}, {Addr: four(9, 255, 255, 255), Bits: 32},
		{Addr: four(10, 0, 0, 0), Bits: 7}, {Addr: four(10, 0, 0, 0), Bits: 8}, {Addr: four(10, 0, 0, 0), Bits: 9},
		{Addr: wrong(1), Bits: 0}, {Addr: wrong(1), Bits: 8}, {Addr: wrong(2), Bits: 0}, {Addr: wrong(255), Bits: -5},
		{Addr: four(10, 0, 0, 1), Bits: 1}, {Addr: four(127, 0, 0, 0), Bits: 8}, {Addr: four(128, 0, 0, 0), Bits: 1}, {Addr: four(255, 255, 255, 255)},
		{Addr: six(), Bits: -7}, {Addr: six()}, {Addr: six(), Bits: 128}, {Addr: six(0, 0, 0, 0, 0, 0, 0, 1), Bits: 5}, {Addr: six(0, 0, 0, 0, 0, 0, 0, 0x100), Bits: 4},
		{Addr: six(0xa00)}, {Addr: six(0x2001, 0xdb8), Bits: 32}, {Addr: six(0x2001, 0xdb8), Bits: 33}, {Addr: six(0x2001, 0xdb9), Bits: 32}, {Addr: six(0x8000), Bits: 1},
		{Addr: bytesOf(0, 255)}, {Addr: bytesOf(0, 255), Bits: math.MaxInt},
	}
}

// P11.2: Before.
func TestBefore(t *testing.T) {
	for i, a := range rising() {
		for j, b := range rising() {
			if got := cidr.Before(a, b); got != (i < j) {
				t.Errorf("Before(%v, %v): %v", a, b, got)
			}
		}
	}
	// Each of the sixteen bytes counts, and the first one that is unlike, of both kinds.
	for _, kind := range []bool{false, true} {
		for i := range 16 {
			small, great := api.Prefix{Bits: 9}, api.Prefix{Bits: 3}
			small.Addr.Six, great.Addr.Six = kind, kind
			small.Addr.B[i], great.Addr.B[i] = 127, 128
			for j := i + 1; j < 16; j++ {
				small.Addr.B[j] = 255
			}
			if !cidr.Before(small, great) || cidr.Before(great, small) {
				t.Errorf("byte %d does not count", i)
			}
		}
	}
}

// wantEnd holds an end's text, and that it is read as the end.
func wantEnd(t *testing.T, v api.End, want string) {
	t.Helper()
	if s, e := cidr.PrintEnd(v); s != want || e != api.OK {
		t.Errorf("PrintEnd(%v): %q %v, want %q", v, s, e, want)
	}
	if got, e := cidr.ParseEnd(want); got != v || e != api.OK {
		t.Errorf("ParseEnd(%q): %v %v, want %v", want, got, e, v)
	}
}

// P11.3: PrintEnd and ParseEnd.
func TestEnds(t *testing.T) {
	wantEnd(t, api.End{Addr: four(10, 0, 0, 1), Port: 51820}, "10.0.0.1:51820")
	wantEnd(t, api.End{Port: 1}, "0.0.0.0:1")
	wantEnd(t, api.End{Addr: six(), Port: 65535}, "[::]:65535")
	wantEnd(t, api.End{Addr: six(0, 0, 0, 0, 0, 0, 0, 1), Port: 5}, "[::1]:5")
	for _, a := range addrs() {
		text, _ := cidr.Print(a)
		if a.Six {
			text = "[" + text + "]"
		}
		for _, port := range []int{1, 2, 9, 10, 80, 255, 256, 9999, 10000, 32767, 32768, 65534, 65535} {
			wantEnd(t, api.End{Addr: a, Port: port}, text+":"+strconv.Itoa(port))
		}
	}
	if v, e := cidr.ParseEnd("[0:0::0A]:7"); v != (api.End{Addr: six(0, 0, 0, 0, 0, 0, 0, 10), Port: 7}) || e != api.OK {
		t.Errorf("ParseEnd of another text: %v %v", v, e)
	}
}

// P11.3: ends that have no text; that of the address is told first.
func TestPrintEndOfWrongs(t *testing.T) {
	ports := []int{math.MinInt, math.MinInt32, -65535, -1, 0, 65536, 65537, 131071, 1 << 32, 1<<32 + 1, math.MaxInt}
	for _, port := range ports {
		for _, a := range addrs() {
			if s, e := cidr.PrintEnd(api.End{Addr: a, Port: port}); s != "" || e != api.ErrArg {
				t.Errorf("PrintEnd of %v and %d: %q %v", a, port, s, e)
			}
		}
		for _, a := range wrongAddrs() {
			if s, e := cidr.PrintEnd(api.End{Addr: a, Port: port}); s != "" || e != api.ErrAddr {
				t.Errorf("PrintEnd of %v and %d: %q %v", a, port, s, e)
			}
		}
	}
	for _, a := range wrongAddrs() {
		if s, e := cidr.PrintEnd(api.End{Addr: a, Port: 1}); s != "" || e != api.ErrAddr {
			t.Errorf("PrintEnd of %v: %q %v", a, s, e)
		}
	}
}

// P11.3: texts that are no end's; that of the address is told first.
func TestParseEndOfWrongs(t *testing.T) {
	for _, s := range []string{"", ":", "::", ":::", ":5", "5", "10.0.0.1", "::1", "::1:5", "1:2:3:4:5:6:7:8", "1:2:3:4:5:6:7:8:9", "[::1]", "[::1]5", "[10.0.0.1]:5", "[10.0.0.1:5", "10.0.0.1]:5",
		"[::1:5", "::1]:5", "[]:5", "[:5", "]:5", "][:5", "]::1[:5", "[[::1]]:5", "[::1]]:5", "[[::1]:5", "[::1] :5", " [::1]:5", "[ ::1]:5", "[::1 ]:5", "10.0.0.1 :5", " 10.0.0.1:5",
		"10.0.0.1:5:5", "[::1]:5:5", "10.0.0.1::5", "[::1]::5", "10.0.0:5", "10.0.0.256:5", "10.0.0.256:0", "10.0.0.256:a", "10.0.0.256:", "[:::]:0", "[:::]:", "(::1):5", "{::1}:5",
		"localhost:5", "[::ffff:1.2.3.4]:5", "[fe80::1%eth0]:5", "[::1]/128:5", "10.0.0.1/32:5"} {
		if v, e := cidr.ParseEnd(s); v != (api.End{}) || e != api.ErrAddr {
			t.Errorf("ParseEnd(%q): %v %v", s, v, e)
		}
	}
	for _, front := range []string{"10.0.0.1", "[::1]", "[0:0::0A]"} {
		for _, port := range []string{"", "0", "00", "01", "05", "-1", "+5", " 5", "5 ", "5\n", "a", "0x5", "5a", "65536", "65537", "131073", "4294967297", "18446744073709551615",
			"18446744073709551616", "18446744073709551617", strings.Repeat("9", 100), "5.", "5/", "5]", "http", "٥", "\x00"} {
			if v, e := cidr.ParseEnd(front + ":" + port); v != (api.End{}) || e != api.ErrArg {
				t.Errorf("ParseEnd(%q): %v %v", front+":"+port, v, e)
			}
		}
	}
}

// P11.3: each port.
func TestEachPort(t *testing.T) {
	for port := range 70000 {
		v, e := cidr.ParseEnd("1.2.3.4:" + strconv.Itoa(port))
		if port >= 1 && port <= 65535 {
			if v != (api.End{Addr: four(1, 2, 3, 4), Port: port}) || e != api.OK {
				t.Errorf("%d: %v %v", port, v, e)
			}
		} else if v != (api.End{}) || e != api.ErrArg {
			t.Errorf("%d: %v %v", port, v, e)
		}
	}
}

// made are made-up addresses, many of them with rows of noughts.
func made(n int) []api.Addr {
	draw := rand.New(rand.NewPCG(11, 4))
	out := addrs()
	for range n {
		a := api.Addr{Six: draw.IntN(4) > 0}
		for i := range digits(a) / 16 {
			if draw.IntN(2) > 0 {
				v := draw.IntN(1 << (1 + draw.IntN(16)))
				a.B[2*i], a.B[2*i+1] = byte(v>>8), byte(v)
			}
		}
		out = append(out, a)
	}
	return out
}

// P11.4: addresses, prefixes and ends go there and back.
func TestThereAndBack(t *testing.T) {
	for i, a := range made(5000) {
		s, e := cidr.Print(a)
		if back, f := cidr.Parse(s); back != a || e != api.OK || f != api.OK {
			t.Errorf("%v: %q %v, %v %v", a, s, e, back, f)
		}
		v := api.End{Addr: a, Port: i*13%65535 + 1}
		s, e = cidr.PrintEnd(v)
		if back, f := cidr.ParseEnd(s); back != v || e != api.OK || f != api.OK {
			t.Errorf("%v: %q %v, %v %v", v, s, e, back, f)
		}
		for _, bits := range []int{0, 1, 7, 8, 9, 31, 32, 33, 64, 65, 127, 128} {
			p, e := cidr.Mask(api.Prefix{Addr: a, Bits: bits})
			if e != api.OK {
				continue
			}
			s, e := cidr.PrintPrefix(p)
			if back, f := cidr.ParsePrefix(s); back != p || e != api.OK || f != api.OK {
				t.Errorf("%v: %q %v, %v %v", p, s, e, back, f)
			}
		}
	}
}

// longGroups are an address' groups in large letters, some with noughts ahead.
func longGroups(a api.Addr) []string {
	out := make([]string, 8)
	for i := range out {
		v := int64(a.B[2*i])<<8 | int64(a.B[2*i+1])
		short := strconv.FormatInt(v, 16)
		out[i] = strings.ToUpper(strings.Repeat("0", i%(5-len(short))) + short)
	}
	return out
}

// P11.4: what is read, and written, is read as the same.
func TestReadAndWritten(t *testing.T) {
	for _, a := range made(2000) {
		if !a.Six {
			continue
		}
		short, _ := cidr.Print(a)
		long := longGroups(a)
		texts := []string{strings.Join(long, ":")}
		for i := range long {
			if strings.Trim(long[i], "0") == "" {
				texts = append(texts, strings.Join(long[:i], ":")+"::"+strings.Join(long[i+1:], ":"))
			}
		}
		for _, s := range texts {
			got, e := cidr.Parse(s)
			written, f := cidr.Print(got)
			again, g := cidr.Parse(written)
			if e != api.OK || f != api.OK || g != api.OK || got != a || again != a || written != short {
				t.Errorf("%q: %v %v, %q %v, %v %v", s, got, e, written, f, again, g)
			}
		}
	}
}

// P11.5: an address lies in just one prefix of each number of digits, and then in all shorter ones of it.
func TestOneOfEachNumber(t *testing.T) {
	for _, a := range addrs() {
		for bits := range digits(a) + 1 {
			p, e := cidr.Mask(api.Prefix{Addr: a, Bits: bits})
			if e != api.OK || !cidr.RightPrefix(p) || !cidr.Holds(p, a) {
				t.Errorf("%v and %d: %v %v", a, bits, p, e)
			}
			for n := range bits {
				if cidr.Holds(api.Prefix{Addr: turned(p.Addr, n), Bits: bits}, a) {
					t.Errorf("%v lies in two of %d digits", a, bits)
				}
				if shorter, e := cidr.Mask(api.Prefix{Addr: p.Addr, Bits: n}); e != api.OK || !cidr.Holds(shorter, a) {
					t.Errorf("%v lies in %v and not in %v", a, p, shorter)
				}
			}
		}
	}
}
