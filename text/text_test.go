package text

import (
	"math"
	"slices"
	"strings"
	"testing"

	"allornone/api"
	"allornone/part"
)

// at is a part, written short.
func at(house, key, n int) api.Part { return api.Part{House: house, Key: key, N: n} }

func parts(l ...api.Part) []api.Part { return l }

// rightOnes answers right parts, no two lists alike: at all places, of all lengths, at all edges.
func rightOnes() [][]api.Part {
	var out [][]api.Part
	for house := range api.MaxHouses {
		for key := range api.MaxKeys {
			for _, n := range []int{0, 1, -1, 9, -9, 10, -10, 100, -305, 1048575, -1048575, api.MaxSum, -api.MaxSum} {
				other := at(house, (key+1)%api.MaxKeys, -n)
				third := at((house+1)%api.MaxHouses, key, 7)
				fourth := at((house+2)%api.MaxHouses, key, -7)
				first := at(house, key, n)
				out = append(out,
					parts(first),
					parts(first, third),
					parts(third, first),
					parts(first, other, third),
					parts(first, third, fourth, other))
			}
		}
	}
	return out
}

// written are right parts, and their text.
var written = []struct {
	l []api.Part
	s string
}{
	{parts(at(0, 0, 0)), "0.0+0"},
	{parts(at(0, 1, -5), at(2, 3, 5)), "0.1-5 2.3+5"},
	{parts(at(2, 3, 5), at(0, 1, -5)), "2.3+5 0.1-5"},
	{parts(at(1, 2, 1)), "1.2+1"},
	{parts(at(1, 2, -1)), "1.2-1"},
	{parts(at(1, 2, 10)), "1.2+10"},
	{parts(at(1, 2, -100)), "1.2-100"},
	{parts(at(1, 2, -305)), "1.2-305"},
	{parts(at(0, 0, 987654)), "0.0+987654"},
	{parts(at(2, 3, api.MaxSum)), "2.3+1048576"},
	{parts(at(2, 3, -api.MaxSum)), "2.3-1048576"},
	{parts(at(0, 0, 0), at(0, 1, 0), at(0, 2, 0), at(0, 3, 0)), "0.0+0 0.1+0 0.2+0 0.3+0"},
	{parts(at(2, 0, 1), at(1, 0, 2), at(0, 0, -3), at(1, 3, 4)), "2.0+1 1.0+2 0.0-3 1.3+4"},
}

func TestPrint(t *testing.T) {
	for _, c := range written {
		if got := Print(c.l); got != c.s {
			t.Errorf("Print(%v) is %q, not %q", c.l, got, c.s)
		}
	}
}

func TestParse(t *testing.T) {
	for _, c := range written {
		if got, err := Parse(c.s); err != api.OK || !slices.Equal(got, c.l) {
			t.Errorf("Parse(%q) is %v, %v, not %v", c.s, got, err, c.l)
		}
	}
}

// refused: Parse tells this error of that text, and answers no parts.
func refused(t *testing.T, s string, want api.Errno) {
	t.Helper()
	if l, err := Parse(s); err != want || len(l) > 0 {
		t.Errorf("Parse(%q) is %v, %v, not %v alone", s, l, err, want)
	}
}

func TestParseForm(t *testing.T) {
	for _, word := range []string{
		"", "0", "0.", "0.1", "0.1+", "0.1-", ".1+1", "0.+1", "01+1", "+1", "1",
		"0.1+01", "0.1+00", "0.1-01", "0.1-0", "0.1-00", "0.1+05", "0.1+000000000000000000000001",
		"0.1++5", "0.1--5", "0.1+-5", "0.1-+5", "0.15", "0.1 5", "0.1=5", "0.1,5",
		"00.1+1", "0.01+1", "10.1+1", "0.10+1", "-0.1+1", "+0.1+1", "0.-1+1", "0.+1+1",
		"a.1+1", "0.a+1", "0.1+a", "0.1+1a", "0.1+a1", "0.1+0x1", "0.1+1_0", "0.1+1e2", "0.1+1.0", "0.1+1.", "0.1-1-",
		"/.1+1", ":.1+1", "0./+1", "0.:+1", "0.1+/", "0.1+:", "0.1+1/", "0.1+1:",
		"0,1+1", "0:1+1", "0/1+1", "0-1+1", "0..+1", "0.1.1",
		"0.1+1\n", "\t0.1+1", "0.1+1\t2.3+5", "0.1+1\n2.3+5", "0.1+1,2.3+5", "0.1+1\x00", "0.1+12.3+5",
		"\u0660.1+1", "0.\u0661+1", "0.1+\u0661", "0.1\u22125", "0.1+1\u00a02.3+5", "\xff.1+1", "0.1+\xff",
	} {
		refused(t, word, api.ErrForm)
		refused(t, "0.0+1 "+word, api.ErrForm)
		refused(t, word+" 0.0+1", api.ErrForm)
		refused(t, "0.0+1 "+word+" 2.3+5", api.ErrForm)
	}
}

func TestParseBlanks(t *testing.T) {
	for _, s := range []string{
		"", " ", "  ", " 0.1-5", "0.1-5 ", " 0.1-5 ", "0.1-5  2.3+5", " 0.1-5 2.3+5", "0.1-5 2.3+5 ", "0.1-5 2.3+5  ",
		"0. 1+5", "0 .1+5", "0.1 +5", "0.1+ 5", "0.1+5 0",
	} {
		refused(t, s, api.ErrForm)
	}
}

func TestParseWrong(t *testing.T) {
	for _, c := range []struct {
		s    string
		want api.Errno
	}{
		{"3.0+1", api.ErrRange},
		{"9.0+1", api.ErrRange},
		{"0.4+1", api.ErrRange},
		{"0.9+1", api.ErrRange},
		{"9.9+9", api.ErrRange},
		{"0.0+1048577", api.ErrRange},
		{"0.0-1048577", api.ErrRange},
		{"0.0+10485760", api.ErrRange},
		{"0.0+2147483648", api.ErrRange},
		{"0.0+4294967296", api.ErrRange},
		{"0.0+999999999999999999", api.ErrRange},
		{"0.0-1000000000000000000", api.ErrRange},
		{"0.0+9223372036854775806", api.ErrRange},
		{"0.0+9223372036854775807", api.ErrRange},
		{"0.0-9223372036854775807", api.ErrRange},
		{"0.0-9223372036854775808", api.ErrRange},
		{"0.1+1 0.1+9223372036854775807", api.ErrRange},
		{"0.1+1 0.1+1 0.0-9223372036854775808", api.ErrMuch},
		{"0.0+1 0.1+1 0.2+1 0.3+1 1.0+9223372036854775807", api.ErrMany},
		{"0.0+1 1.0+1 3.0+1", api.ErrRange},
		{"0.1+1 0.1+2", api.ErrMuch},
		{"0.1+1 0.1+1", api.ErrMuch},
		{"0.1+1 2.1+1 0.2+1 0.1-1", api.ErrMuch},
		{"0.1+1 3.1+1 0.1+1", api.ErrRange},
		{"0.0+1 0.1+1 0.2+1 0.3+1 1.0+1", api.ErrMany},
		{"0.0+1 0.0+1 0.0+1 0.0+1 0.0+1", api.ErrMany},
		{"9.9+1 0.1+1 0.2+1 0.3+1 1.0+1", api.ErrMany},
		{"0.0+1 0.1+1 0.2+1 0.3+1 1.0+9999999", api.ErrMany},
		{"0.0+1 0.1+1 0.2+1 0.3+1 1.0+1 1.1+1", api.ErrMany},
	} {
		refused(t, c.s, c.want)
	}
}

// Digits beyond Go's int write no number: that is told ahead of what part says, wherever the word stands.
func TestParseBeyondInt(t *testing.T) {
	for _, n := range []string{
		"+9223372036854775808", "-9223372036854775809", "+9223372036854775810", "+9999999999999999999", "-10000000000000000000",
		"+18446744073709551615", "+18446744073709551616", "-18446744073709551616", "+18446744073709551617", "-18446744073709551621",
		"+184467440737095516160", "+340282366920938463463374607431768211457",
		"+1" + strings.Repeat("0", 1000), "-" + strings.Repeat("9", 1000), "+1" + strings.Repeat("0", 100000),
	} {
		refused(t, "0.0"+n, api.ErrForm)
		refused(t, "9.9"+n, api.ErrForm)
		refused(t, "0.1+5 0.0"+n, api.ErrForm)
		refused(t, "0.0"+n+" 0.1+5", api.ErrForm)
		refused(t, "7.7+1 0.0"+n, api.ErrForm)
		refused(t, "0.0"+n+" 0.0+1048577", api.ErrForm)
		refused(t, "0.1+1 0.1+1 0.0"+n, api.ErrForm)
		refused(t, "0.0+1 0.1+1 0.2+1 0.3+1 1.0"+n, api.ErrForm)
		refused(t, "0.0+1 0.1+1 0.2+1 0.3+1 1.0+1 1.1"+n, api.ErrForm)
	}
}

// A word that is not written as it must be is told ahead of what part says, wherever it stands.
func TestFormFirst(t *testing.T) {
	for _, s := range []string{
		"3.0+1 x", "x 3.0+1", "0.1+1 0.1+1 x", "0.0+1 0.1+1 0.2+1 0.3+1 x", "0.0+1 0.1+1 0.2+1 0.3+1 1.0+1 1.1+01",
		"0.0+1 0.1+1 0.2+1 0.3+1 1.0+1 ", "0.0+9999999999999999999999a", "0.0+9999999 0.0-0",
	} {
		refused(t, s, api.ErrForm)
	}
}

func TestManyWords(t *testing.T) {
	long := strings.Repeat("0.0+1 ", 100000)
	refused(t, long+"0.0+1", api.ErrMany)
	refused(t, long, api.ErrForm)
	refused(t, long+"0.0+01", api.ErrForm)
	refused(t, strings.Repeat(" ", 100000), api.ErrForm)
}

func TestThereAndBack(t *testing.T) {
	seen := map[string][]api.Part{}
	for _, l := range rightOnes() {
		if err := part.Wrong(l, api.MaxHouses); err != api.OK {
			t.Fatalf("%v is not right: %v", l, err)
		}
		s := Print(l)
		if got, err := Parse(s); err != api.OK || !slices.Equal(got, l) {
			t.Errorf("%v comes back from %q as %v, %v", l, s, got, err)
		}
		if other, ok := seen[s]; ok && !slices.Equal(other, l) {
			t.Errorf("%v and %v are both written as %q", other, l, s)
		}
		seen[s] = l
	}
}

// What is told of a text with one byte turned is another deed, or none: never the same.
func TestOneByteTurned(t *testing.T) {
	const s = "0.1-5 2.3+50"
	want, _ := Parse(s)
	for i := range len(s) {
		for c := range 256 {
			b := []byte(s)
			b[i] = byte(c)
			if string(b) == s {
				continue
			}
			if got, err := Parse(string(b)); err == api.OK && slices.Equal(got, want) {
				t.Errorf("%q tells what %q tells", b, s)
			}
		}
	}
}

func TestOnlyRead(t *testing.T) {
	room := parts(at(0, 1, -5), at(2, 3, 5), at(1, 1, 1), at(9, 9, 9))
	before := slices.Clone(room)
	if got := Print(room[:2]); got != "0.1-5 2.3+5" {
		t.Errorf("Print is %q", got)
	}
	if !slices.Equal(room, before) {
		t.Errorf("Print leaves %v of %v", room, before)
	}
}

func TestAnswersAreNew(t *testing.T) {
	const s = "0.1-5 2.3+5"
	one, _ := Parse(s)
	one[0].N = 77
	_ = append(one, at(1, 1, 1))
	if two, err := Parse(s); err != api.OK || !slices.Equal(two, parts(at(0, 1, -5), at(2, 3, 5))) {
		t.Errorf("a second time %q is %v, %v", s, two, err)
	}
}

func TestNoPanic(t *testing.T) {
	edges := []int{math.MinInt, -1, 0, 9, 10, math.MaxInt}
	for _, house := range edges {
		for _, key := range edges {
			for _, n := range edges {
				Parse(Print(parts(at(house, key, n), at(0, 0, 0))))
			}
		}
	}
	if Print(nil) != "" || Print([]api.Part{}) != "" {
		t.Error("of no parts there is a text")
	}
	Print(slices.Repeat(parts(at(0, 0, 0)), 1000))
}

func FuzzParse(f *testing.F) {
	for _, c := range written {
		f.Add(c.s)
	}
	for _, s := range []string{"", " ", "0.1-0", "0.1+05", "3.0+1", "0.0+1 0.0+1", "0.0+9223372036854775807", "0.0+99999999999999999999"} {
		f.Add(s)
	}
	f.Fuzz(func(t *testing.T, s string) {
		l, err := Parse(s)
		switch {
		case err != api.OK:
			if len(l) > 0 {
				t.Errorf("Parse(%q) is %v beside %v", s, l, err)
			}
		case part.Wrong(l, api.MaxHouses) != api.OK:
			t.Errorf("Parse(%q) is %v, which is not right", s, l)
		case Print(l) != s:
			t.Errorf("%q comes back as %q", s, Print(l))
		}
	})
}
