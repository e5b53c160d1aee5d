package text_test

import (
	"bytes"
	"encoding/base64"
	"math"
	"math/big"
	"slices"
	"strconv"
	"strings"
	"testing"

	"adit/api"
	"adit/text"
)

// signs are the signs, in the order of their numbers.
const signs = "ABCDEFGHIJKLMNOPQRSTUVWXYZabcdefghijklmnopqrstuvwxyz0123456789+/"

// keyOf is a key whose bytes each are greater by step than the one ahead.
func keyOf(step, first int) api.Key {
	var out api.Key
	for i := range out {
		out[i] = byte(i*step + first)
	}
	return out
}

// keys are keys at their edges, and ordinary ones.
func keys() []api.Key {
	out := []api.Key{{}, keyOf(0, 255), keyOf(1, 0), keyOf(7, 1), keyOf(251, 200), keyOf(0, 0x55), keyOf(0, 0xaa)}
	for i := range 256 {
		var k api.Key
		k[i/8] = 1 << (i % 8)
		out = append(out, k)
	}
	return out
}

// with is a word with another byte at a place.
func with(s string, at int, c byte) string {
	b := []byte(s)
	b[at] = c
	return string(b)
}

// wantNoKey holds that a word is read as no key, with an error.
func wantNoKey(t *testing.T, s string, want api.Errno) {
	t.Helper()
	if k, e := text.ReadKey(s); k != (api.Key{}) || e != want {
		t.Errorf("ReadKey(%q): %v %v, want %v", s, k, e, want)
	}
}

// P10.1: Key, and the chapter's example.
func TestKey(t *testing.T) {
	if s := text.Key(api.Key{}); s != strings.Repeat("A", 43)+"=" {
		t.Errorf("noughts: %q", s)
	}
	if s := text.Key(api.Key{0, 0, 1}); s != "AAAB"+strings.Repeat("A", 39)+"=" {
		t.Errorf("0 0 1: %q", s)
	}
	if s := text.Key(keyOf(0, 255)); s != strings.Repeat("/", 42)+"8=" {
		t.Errorf("full bytes: %q", s)
	}
	if s := text.Key(api.Key{31: 1}); s != strings.Repeat("A", 42)+"E=" {
		t.Errorf("a last byte of 1: %q", s)
	}
	if s := text.Key(api.Key{0, 0x10, 0x83, 0x10, 0x51, 0x87}); s != "ABCDEFGH"+strings.Repeat("A", 35)+"=" {
		t.Errorf("the first eight signs: %q", s)
	}
	for _, k := range keys() {
		if s := text.Key(k); s != base64.StdEncoding.EncodeToString(k[:]) {
			t.Errorf("%v: %q", k, s)
		}
	}
}

// P10.1: ReadKey.
func TestReadKey(t *testing.T) {
	for _, k := range keys() {
		if got, e := text.ReadKey(base64.StdEncoding.EncodeToString(k[:])); got != k || e != api.OK {
			t.Errorf("%v: %v %v", k, got, e)
		}
	}
}

// P10.1: each byte at each place is a sign, or is none.
func TestEachSignOfAKey(t *testing.T) {
	k := keyOf(7, 1)
	word := base64.StdEncoding.EncodeToString(k[:])
	for at := range 43 {
		for v := range 256 {
			s := with(word, at, byte(v))
			n := strings.IndexByte(signs, byte(v))
			switch {
			case n < 0:
				wantNoKey(t, s, api.ErrByte)
			case at == 42 && n%4 != 0:
				wantNoKey(t, s, api.ErrForm)
			default:
				want, _ := base64.StdEncoding.DecodeString(s)
				if got, e := text.ReadKey(s); e != api.OK || !bytes.Equal(got[:], want) {
					t.Errorf("%q: %v %v", s, got, e)
				}
			}
		}
	}
	for v := range 256 {
		if v != '=' {
			wantNoKey(t, with(word, 43, byte(v)), api.ErrByte)
		}
	}
}

// P10.1: words of another length, whatever stands in them.
func TestReadKeyOfWrongLengths(t *testing.T) {
	for n := range 100 {
		if n != 44 {
			wantNoKey(t, strings.Repeat("A", n), api.ErrForm)
			wantNoKey(t, strings.Repeat("A", max(n-1, 0))+"=", api.ErrForm)
			wantNoKey(t, strings.Repeat("!", n), api.ErrForm)
			wantNoKey(t, strings.Repeat("B", n), api.ErrForm)
		}
	}
	wantNoKey(t, strings.Repeat("A", 43)+"=\n", api.ErrForm)
	wantNoKey(t, strings.Repeat("A", 42)+"==", api.ErrByte)
	wantNoKey(t, strings.Repeat("é", 44), api.ErrForm)
	wantNoKey(t, strings.Repeat("A", api.MaxText+1), api.ErrForm)
}

// P10.1: which error is told first.
func TestReadKeyTellsTheFirstError(t *testing.T) {
	noughts := strings.Repeat("A", 42)
	wantNoKey(t, "!"+noughts[1:]+"B=", api.ErrByte)
	wantNoKey(t, noughts[1:]+"!B=", api.ErrByte)
	wantNoKey(t, noughts+"BA", api.ErrByte)
	wantNoKey(t, noughts+"BB", api.ErrByte)
	wantNoKey(t, noughts+"!=", api.ErrByte)
	wantNoKey(t, noughts+"==", api.ErrByte)
	wantNoKey(t, noughts+"A", api.ErrForm)
	wantNoKey(t, "!"+noughts, api.ErrForm)
	for _, c := range "BCD" {
		wantNoKey(t, noughts+string(c)+"=", api.ErrForm)
	}
	if k, e := text.ReadKey(noughts + "E="); k != (api.Key{31: 1}) || e != api.OK {
		t.Errorf("the digits are 0: %v %v", k, e)
	}
	// Signs of other sorts of words, and what is written in several lines, are none.
	wantNoKey(t, "-"+noughts+"=", api.ErrByte)
	wantNoKey(t, "_"+noughts+"=", api.ErrByte)
	wantNoKey(t, "\n"+noughts+"=", api.ErrByte)
	wantNoKey(t, "é"+noughts[1:]+"=", api.ErrByte)
}

// numbers are numbers at their edges; rising.
func numbers() []uint64 {
	out := []uint64{0}
	for i := range 64 {
		out = append(out, 1<<i-1, 1<<i, 1<<i+1)
	}
	for n := uint64(10); n <= math.MaxUint64/10; n *= 10 {
		out = append(out, n-1, n, n+1)
	}
	out = append(out, 10000000000000000000, math.MaxUint64-1, math.MaxUint64, math.MaxUint64/10, math.MaxUint64/10+1)
	slices.Sort(out)
	return slices.Compact(out)
}

// beyond are words of numbers that have more than 64 digits of two.
func beyond() []string {
	return []string{"18446744073709551616", "18446744073709551617", "18446744073709551620", "18446744073709551625", "18446744073709551700",
		"20000000000000000000", "99999999999999999999", "36893488147419103232", "100000000000000000000", "184467440737095516150",
		"184467440737095516160", "340282366920938463463374607431768211456", strings.Repeat("9", 100), "1" + strings.Repeat("0", 1000),
		"1" + strings.Repeat("0", 2*api.MaxText)}
}

// P10.2: Number.
func TestNumber(t *testing.T) {
	for _, n := range numbers() {
		if s, want := text.Number(n), new(big.Int).SetUint64(n).String(); s != want {
			t.Errorf("Number(%d): %q", n, s)
		}
	}
	if a, b := text.Number(0), text.Number(math.MaxUint64); a != "0" || b != "18446744073709551615" {
		t.Errorf("the edges: %q %q", a, b)
	}
}

// P10.2: ReadNumber, about each most.
func TestReadNumber(t *testing.T) {
	for _, n := range numbers() {
		s := strconv.FormatUint(n, 10)
		for _, most := range append(numbers(), n/10, n-n/10) {
			got, e := text.ReadNumber(s, most)
			if n <= most && (got != n || e != api.OK) || n > most && (got != 0 || e != api.ErrLong) {
				t.Errorf("ReadNumber(%q, %d): %d %v", s, most, got, e)
			}
		}
	}
	for n := range uint64(300) {
		for most := range uint64(300) {
			got, e := text.ReadNumber(strconv.FormatUint(n, 10), most)
			if n <= most && (got != n || e != api.OK) || n > most && (got != 0 || e != api.ErrLong) {
				t.Errorf("ReadNumber(%d, %d): %d %v", n, most, got, e)
			}
		}
	}
}

// P10.2: a number is too great for each most, however great it is.
func TestReadNumberOfGreatNumbers(t *testing.T) {
	for _, s := range beyond() {
		for _, most := range numbers() {
			if got, e := text.ReadNumber(s, most); got != 0 || e != api.ErrLong {
				t.Errorf("ReadNumber of %d digits (%.30s), %d: %d %v", len(s), s, most, got, e)
			}
		}
	}
}

// P10.2: what is no number's word is told ahead of what is too great.
func TestReadNumberOfWrongWords(t *testing.T) {
	wrong := []string{"", "00", "01", "000", "007", "0000000000000000000000", "0" + strings.Repeat("9", 30), "-1", "-0", "+1", "+0", " 1", "1 ", "1 2", "1_0",
		"0x1", "0b1", "1e1", "1.0", "a", "1a", "a1", "/", ":", "1/", "1:", "0/", "0:", "\x00", "1\x00", "1\xff", "é", "١", "１", "1\n", "\t1",
		"99999999999999999999999x", strings.Repeat("9", api.MaxText) + "-"}
	for _, s := range wrong {
		for _, most := range []uint64{0, 1, 9, 255, math.MaxUint64} {
			if got, e := text.ReadNumber(s, most); got != 0 || e != api.ErrForm {
				t.Errorf("ReadNumber(%.40q, %d): %d %v", s, most, got, e)
			}
		}
	}
	for v := range 256 {
		c := string([]byte{byte(v)})
		got, e := text.ReadNumber(c, 9)
		late, f := text.ReadNumber("1"+c, 19)
		digit := v >= '0' && v <= '9'
		n := uint64(v) - '0'
		if digit && (got != n || late != 10+n || e != api.OK || f != api.OK) || !digit && (got != 0 || late != 0 || e != api.ErrForm || f != api.ErrForm) {
			t.Errorf("byte %d: %d %v, %d %v", v, got, e, late, f)
		}
	}
	if n, e := text.ReadNumber("0", 0); n != 0 || e != api.OK {
		t.Errorf("0 itself: %d %v", n, e)
	}
}

// P10.2: IsName.
func TestIsName(t *testing.T) {
	for _, s := range []string{"a", "z", "0", "9", "az", "a-b", "a--b", "0-9", "a1", "1a", "abcdefghijklmnop", "a--------------b", "qrstuvwxyz", "0123456789", "9999999999999999"} {
		if !text.IsName(s) {
			t.Errorf("%q is told to be no name", s)
		}
	}
	for _, s := range []string{"", "-", "--", "---", "-a", "a-", "-a-", "abcdefghijklmnopq", "a---------------b", "-bcdefghijklmnop", "abcdefghijklmno-", "A", "aB", "Za",
		"a b", " a", "a ", "a_b", "a.b", "a=b", "a+b", "é", "aé", "a\x00", "\xff", "a\n", strings.Repeat("a", 32), strings.Repeat("a", api.MaxText+1)} {
		if text.IsName(s) {
			t.Errorf("%.40q is told to be a name", s)
		}
	}
}

// P10.2: each length, and each byte at each place of a name.
func TestEachByteOfAName(t *testing.T) {
	for n := range 40 {
		if got := text.IsName(strings.Repeat("x", n)); got != (n >= 1 && n <= 16) {
			t.Errorf("%d bytes: %v", n, got)
		}
	}
	for _, n := range []int{1, 2, 3, 15, 16} {
		for at := range n {
			for v := range 256 {
				s := with(strings.Repeat("x", n), at, byte(v))
				inner := v == '-' && at > 0 && at < n-1
				want := inner || v >= 'a' && v <= 'z' || v >= '0' && v <= '9'
				if got := text.IsName(s); got != want {
					t.Errorf("%q: %v", s, got)
				}
			}
		}
	}
}

// P10.3: Words.
func TestWords(t *testing.T) {
	for _, c := range []struct {
		s    string
		want []string
	}{
		{"", nil}, {" ", nil}, {"    ", nil},
		{"a", []string{"a"}}, {" a", []string{"a"}}, {"a ", []string{"a"}}, {"  a  ", []string{"a"}},
		{"a b", []string{"a", "b"}}, {"a  b", []string{"a", "b"}}, {" a   b  c ", []string{"a", "b", "c"}},
		{"one two one", []string{"one", "two", "one"}},
		{"add K keep=25 name=x", []string{"add", "K", "keep=25", "name=x"}},
		{"!\"# ~}|", []string{"!\"#", "~}|"}}, {"= = =", []string{"=", "=", "="}},
	} {
		if got, e := text.Words(c.s); !slices.Equal(got, c.want) || e != api.OK {
			t.Errorf("Words(%q): %q %v, want %q", c.s, got, e, c.want)
		}
	}
}

// P10.3: each byte at each place: the blank parts, those of 33 to 126 are words', others are wrong.
func TestEachByteOfWords(t *testing.T) {
	for v := range 256 {
		c := string([]byte{byte(v)})
		for _, sides := range [][2]string{{"", ""}, {"", "x"}, {"x", ""}, {"x", "y"}, {"x ", " y"}} {
			s := sides[0] + c + sides[1]
			got, e := text.Words(s)
			switch {
			case v < 32 || v > 126:
				if len(got) != 0 || e != api.ErrByte {
					t.Errorf("Words(%q): %q %v", s, got, e)
				}
			case e != api.OK || !slices.Equal(got, strings.Fields(s)):
				t.Errorf("Words(%q): %q %v", s, got, e)
			}
		}
	}
}

// P10.3: at the limit, and one beyond it; that it is too long is told first.
func TestLongWords(t *testing.T) {
	const most = api.MaxText
	if got, e := text.Words(strings.Repeat("x", most)); e != api.OK || len(got) != 1 || len(got[0]) != most {
		t.Errorf("one long word: %d %v", len(got), e)
	}
	if got, e := text.Words(strings.Repeat("x ", most/2)); e != api.OK || len(got) != most/2 || got[0] != "x" || got[most/2-1] != "x" {
		t.Errorf("many words: %d %v", len(got), e)
	}
	if got, e := text.Words(strings.Repeat(" ", most)); e != api.OK || len(got) != 0 {
		t.Errorf("blanks: %d %v", len(got), e)
	}
	if got, e := text.Words(strings.Repeat("x", most-1) + "\n"); e != api.ErrByte || len(got) != 0 {
		t.Errorf("the last byte wrong: %d %v", len(got), e)
	}
	for _, s := range []string{strings.Repeat("x", most+1), strings.Repeat(" ", most+1), strings.Repeat("\n", most+1), strings.Repeat("x ", most)} {
		if got, e := text.Words(s); e != api.ErrLong || len(got) != 0 {
			t.Errorf("beyond the limit: %d %v", len(got), e)
		}
	}
}

// P10.3: Pair.
func TestPair(t *testing.T) {
	for _, c := range []struct {
		s, ahead, behind string
		ok               bool
	}{
		{"", "", "", false}, {"a", "a", "", false}, {"abc", "abc", "", false}, {" ", " ", "", false}, {"\xff\x00", "\xff\x00", "", false},
		{"=", "", "", true}, {"a=", "a", "", true}, {"=b", "", "b", true}, {"a=b", "a", "b", true},
		{"==", "", "=", true}, {"a=b=c", "a", "b=c", true}, {"a==", "a", "=", true}, {"=a=", "", "a=", true},
		{"keep=25", "keep", "25", true}, {" a = b ", " a ", " b ", true}, {"\xff=\x00", "\xff", "\x00", true}, {"é＝é", "é＝é", "", false},
	} {
		ahead, behind, ok := text.Pair(c.s)
		if ahead != c.ahead || behind != c.behind || ok != c.ok {
			t.Errorf("Pair(%q): %q %q %v", c.s, ahead, behind, ok)
		}
	}
	for v := range 256 {
		if v == '=' {
			continue
		}
		s := "x" + string([]byte{byte(v)}) + "y"
		if ahead, behind, ok := text.Pair(s); ahead != s || behind != "" || ok {
			t.Errorf("Pair(%q): %q %q %v", s, ahead, behind, ok)
		}
	}
}

// P10.4: keys go there and back, in one way alone.
func TestKeysThereAndBack(t *testing.T) {
	for _, k := range keys() {
		s := text.Key(k)
		if got, e := text.ReadKey(s); got != k || e != api.OK {
			t.Errorf("%v: %q %v %v", k, s, got, e)
		}
		for at := range 44 {
			for _, c := range []byte("AQgw048+/=- ") {
				other := with(s, at, c)
				if got, e := text.ReadKey(other); e == api.OK && text.Key(got) != other {
					t.Errorf("%q and %q are one key's", other, text.Key(got))
				}
			}
		}
	}
}

// P10.4: numbers go there and back, in one way alone.
func TestNumbersThereAndBack(t *testing.T) {
	for _, n := range numbers() {
		s := text.Number(n)
		if got, e := text.ReadNumber(s, math.MaxUint64); got != n || e != api.OK {
			t.Errorf("%d: %q %d %v", n, s, got, e)
		}
		for _, other := range []string{"0" + s, "00" + s, "+" + s, "-" + s, " " + s, s + " ", s + ".", s + "0", "1" + s} {
			if got, e := text.ReadNumber(other, math.MaxUint64); e == api.OK && text.Number(got) != other {
				t.Errorf("%q and %q are one number's", other, text.Number(got))
			}
		}
	}
}

// P10.5: words with one blank between are read as themselves.
func TestWordsThereAndBack(t *testing.T) {
	all := []string{"a", "=", "~", "!", "add", text.Key(keyOf(7, 1)), text.Number(math.MaxUint64), "a-b", "x=y=z", strings.Repeat("w", 1000)}
	for n := range len(all) + 1 {
		for from := range len(all) - n + 1 {
			row := all[from : from+n]
			if got, e := text.Words(strings.Join(row, " ")); !slices.Equal(got, row) || e != api.OK {
				t.Errorf("%d words from %d on: %q %v", n, from, got, e)
			}
		}
	}
}

// Rules 4 and 5: each list is new memory, without room behind.
func TestWordsAreNew(t *testing.T) {
	const s = "a b c d e f g"
	one, _ := text.Words(s)
	two, _ := text.Words(s)
	if cap(one) != len(one) {
		t.Errorf("there is room for %d behind the words", cap(one)-len(one))
	}
	one[0] = "z"
	three, _ := text.Words(s)
	want := strings.Fields(s)
	if !slices.Equal(two, want) || !slices.Equal(three, want) {
		t.Errorf("lists share their memory: %q %q", two, three)
	}
}
