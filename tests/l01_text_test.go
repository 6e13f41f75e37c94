package tests

import (
	"math"
	"slices"
	"strings"
	"testing"

	"loop.example/g00945/impl"
)

// plainFormat is a second way to write an integer, against which the program is compared.
func plainFormat(n int) string {
	digits := ""
	rest := uint64(n)
	if n < 0 {
		rest = -rest
	}
	for {
		digits = string(rune('0'+rest%10)) + digits
		rest /= 10
		if rest == 0 {
			break
		}
	}
	if n < 0 {
		return "-" + digits
	}
	return digits
}

// someInts returns small integers, powers of 2 and 10 with their neighbours, and the ends of the range.
func someInts() []int {
	list := []int{math.MinInt, math.MinInt + 1, math.MaxInt - 1, math.MaxInt}
	for n := -1100; n <= 1100; n++ {
		list = append(list, n)
	}
	for shift := range 64 {
		power := 1 << shift
		list = append(list, power-1, power, power+1, -power)
	}
	for power, k := 1, 0; k < 19; power, k = power*10, k+1 {
		list = append(list, power-1, power, power+1, -power+1, -power, -power-1)
	}
	return list
}

// allTexts returns all strings over some bytes of at most a given length.
func allTexts(bytes string, most int) []string {
	all := []string{""}
	longest := all
	for range most {
		var longer []string
		for _, s := range longest {
			for i := range len(bytes) {
				longer = append(longer, s+bytes[i:i+1])
			}
		}
		all = append(all, longer...)
		longest = longer
	}
	return all
}

// allShortTexts returns all strings of at most two arbitrary bytes.
func allShortTexts() []string {
	bytes := make([]byte, 256)
	for i := range bytes {
		bytes[i] = byte(i)
	}
	return allTexts(string(bytes), 2)
}

func TestFormatInt(t *testing.T) {
	cases := []struct {
		n    int
		want string
	}{
		{0, "0"},
		{7, "7"},
		{-7, "-7"},
		{10, "10"},
		{-10, "-10"},
		{1234567890, "1234567890"},
		{math.MaxInt, "9223372036854775807"},
		{math.MinInt, "-9223372036854775808"},
	}
	for _, c := range cases {
		if got := impl.FormatInt(c.n); got != c.want {
			t.Errorf("FormatInt(%d) = %q, want %q", c.n, got, c.want)
		}
	}
	for _, n := range someInts() {
		if got, want := impl.FormatInt(n), plainFormat(n); got != want {
			t.Errorf("FormatInt(%d) = %q, want %q", n, got, want)
		}
	}
}

func TestParseIntRecoversEveryInteger(t *testing.T) {
	for _, n := range someInts() {
		if got, ok := impl.ParseInt(plainFormat(n)); !ok || got != n {
			t.Errorf("ParseInt(%q) = %d, %v", plainFormat(n), got, ok)
		}
		if got, ok := impl.ParseInt(impl.FormatInt(n)); !ok || got != n {
			t.Errorf("ParseInt of FormatInt(%d) = %d, %v", n, got, ok)
		}
	}
}

func TestParseIntRejectsOtherTexts(t *testing.T) {
	bad := []string{
		"", "-", "+", "+1", "+0", "-0", "00", "01", "007", "-07", "-00", "--1", "1-", "-+1", "- 1",
		" 1", "1 ", "1 2", "\t1", "1\n", "\n", "1\x00", "\x001", "\xff", "1\xff", "1,000", "1_000", "_1",
		"1.0", "1.", "1e3", "0x10", "0b1", "0o7", "0_7", "ff", "a", "1a", "inf", "\u22121",
		"\uff11", "\u0661", "\u00b2",
		"9223372036854775808", "-9223372036854775809", "18446744073709551616", "18446744073709551617",
		"-18446744073709551616", "09223372036854775807", "10000000000000000000", "-10000000000000000000",
		strings.Repeat("9", 100), "-" + strings.Repeat("9", 5000), strings.Repeat("0", 50),
	}
	for _, s := range bad {
		if n, ok := impl.ParseInt(s); ok || n != 0 {
			t.Errorf("ParseInt(%q) = %d, %v, want 0 and false", s, n, ok)
		}
	}
}

func TestParseIntOfAllShortTexts(t *testing.T) {
	values := map[string]int{}
	for n := -999; n <= 9999; n++ {
		values[plainFormat(n)] = n
	}
	for _, s := range append(allShortTexts(), allTexts("01279-+ _", 4)...) {
		want, wantOk := values[s]
		if got, ok := impl.ParseInt(s); got != want || ok != wantOk {
			t.Errorf("ParseInt(%q) = %d, %v, want %d, %v", s, got, ok, want, wantOk)
		}
	}
}

// only reports whether all bytes of s are among some bytes.
func only(s string, bytes string) bool {
	for i := range len(s) {
		if strings.IndexByte(bytes, s[i]) < 0 {
			return false
		}
	}
	return true
}

const digits = "0123456789"
const smallLetters = "abcdefghijklmnopqrstuvwxyz"

func TestIsDigits(t *testing.T) {
	yes := []string{"0", "9", "00", "09", digits, strings.Repeat("5", 3000), strings.Repeat("9", 40)}
	no := []string{
		"", " ", "-", "-1", "+1", "1 ", " 1", "1.5", "1,2", "a", "1a", "a1", "12x34", "/", ":", "1\n", "1\x00",
		"\xff", "1\xff", "\xb1", "\u0661", "\uff11", "1\u0662", "\u00b2", "\U0001d7d8", strings.Repeat("5", 3000) + "x",
	}
	for _, s := range yes {
		if !impl.IsDigits(s) {
			t.Errorf("IsDigits(%q) = false", s)
		}
	}
	for _, s := range no {
		if impl.IsDigits(s) {
			t.Errorf("IsDigits(%q) = true", s)
		}
	}
	for _, s := range allShortTexts() {
		if got, want := impl.IsDigits(s), s != "" && only(s, digits); got != want {
			t.Errorf("IsDigits(%q) = %v", s, got)
		}
	}
}

func TestIsName(t *testing.T) {
	yes := []string{"a", "z", "x1", "a0", "z9", "abcdefgh", "a1234567", "q9q9q9q9", "zz"}
	no := []string{
		"", "0", "9", "1x", "1a", "A", "Ab", "aB", "a_", "_a", "a b", " a", "a ", "a-", "abcdefghi", "a12345678",
		"a\n", "a\x00", "\x00", "`", "{", "a`", "a{", "a/", "a:", "\xff", "a\xff", "\xe1", "a\u0661", "\u00e9", "a\u00e9",
		"\uff41", "a\uff41", strings.Repeat("a", 3000),
	}
	for _, s := range yes {
		if !impl.IsName(s) {
			t.Errorf("IsName(%q) = false", s)
		}
	}
	for _, s := range no {
		if impl.IsName(s) {
			t.Errorf("IsName(%q) = true", s)
		}
	}
	for _, s := range allShortTexts() {
		want := s != "" && only(s[:1], smallLetters) && only(s, smallLetters+digits)
		if got := impl.IsName(s); got != want {
			t.Errorf("IsName(%q) = %v", s, got)
		}
	}
	for n := range 20 {
		if got := impl.IsName(strings.Repeat("b", n)); got != (1 <= n && n <= 8) {
			t.Errorf("IsName of %d letters = %v", n, got)
		}
	}
}

func TestIsNameChecksEveryByte(t *testing.T) {
	for i := range 8 {
		for b := range 256 {
			name := []byte("abcdefgh")
			name[i] = byte(b)
			text := string(name)
			want := only(text[:1], smallLetters) && only(text, smallLetters+digits)
			if got := impl.IsName(text); got != want {
				t.Errorf("IsName(%q) = %v", text, got)
			}
		}
	}
}

// sameList compares lists of texts; a nil list and an empty one are the same.
func sameList(a []string, b []string) bool {
	return slices.Equal(a, b)
}

func TestSplitAny(t *testing.T) {
	cases := []struct {
		s    string
		by   string
		want []string
	}{
		{"", "", []string{""}},
		{"", ",", []string{""}},
		{"abc", "", []string{"abc"}},
		{"abc", ",", []string{"abc"}},
		{"a,b c", ", ", []string{"a", "b", "c"}},
		{",", ",", []string{"", ""}},
		{",a,", ",", []string{"", "a", ""}},
		{"a,,b", ",", []string{"a", "", "b"}},
		{", ,", ", ", []string{"", "", "", ""}},
		{"a, b", ",", []string{"a", " b"}},
		{"a,b", ",,,", []string{"a", "b"}},
		{"abc", "cab", []string{"", "", "", ""}},
		{"ab", "abab", []string{"", "", ""}},
		{"a\nb\x00c", "\x00\n", []string{"a", "b", "c"}},
		{"a\xfeb\xffc", "\xff", []string{"a\xfeb", "c"}},
		{"a\xffb", "\xfe", []string{"a\xffb"}},
		{"\u00e8", "\u00e9", []string{"", "\xa8"}},
		{"\u00e9", "\xa9", []string{"\xc3", ""}},
		{"\u20ac", "\x82", []string{"\xe2", "\xac"}},
		{"x\ufffdy", "\xff", []string{"x\ufffdy"}},
		{"x\xffy", "\ufffd", []string{"x\xffy"}},
		{"\u0101", "\x01", []string{"\u0101"}},
	}
	for _, c := range cases {
		if got := impl.SplitAny(c.s, c.by); !sameList(got, c.want) {
			t.Errorf("SplitAny(%q, %q) = %q, want %q", c.s, c.by, got, c.want)
		}
	}
}

// plainSplit is a second way to split, against which the program is compared.
func plainSplit(s string, by string) []string {
	for i := range len(s) {
		if !only(s[i:i+1], by) {
			continue
		}
		return append([]string{s[:i]}, plainSplit(s[i+1:], by)...)
	}
	return []string{s}
}

func TestSplitAnyOfAllShortTexts(t *testing.T) {
	for _, by := range allTexts("a,\xc3\xa9", 2) {
		for _, s := range allTexts("ab,\xc3\xa9", 4) {
			if got, want := impl.SplitAny(s, by), plainSplit(s, by); !sameList(got, want) {
				t.Errorf("SplitAny(%q, %q) = %q, want %q", s, by, got, want)
			}
		}
	}
}

func TestSplitAnyComparesBytes(t *testing.T) {
	for _, pair := range allShortTexts() {
		if len(pair) != 2 {
			continue
		}
		s, by := "<"+pair[:1]+">", pair[1:]
		if got, want := impl.SplitAny(s, by), plainSplit(s, by); !sameList(got, want) {
			t.Errorf("SplitAny(%q, %q) = %q, want %q", s, by, got, want)
		}
	}
}

func TestSplitAndJoinRecoverTheText(t *testing.T) {
	for _, s := range allTexts("a,\n\xff", 5) {
		if got := impl.Join(impl.SplitAny(s, ","), ","); got != s {
			t.Errorf("joined again, %q is %q", s, got)
		}
		if got := impl.Join(impl.SplitAny(s, ""), "-"); got != s {
			t.Errorf("split by nothing, %q is %q", s, got)
		}
	}
}

func TestSplitLines(t *testing.T) {
	cases := []struct {
		s    string
		want []string
	}{
		{"", nil},
		{"\n", []string{""}},
		{"\n\n", []string{"", ""}},
		{"a", []string{"a"}},
		{"a\n", []string{"a"}},
		{"a\nb", []string{"a", "b"}},
		{"a\nb\n", []string{"a", "b"}},
		{"a\n\nb", []string{"a", "", "b"}},
		{"a\n\n", []string{"a", ""}},
		{"\na", []string{"", "a"}},
		{"a\n ", []string{"a", " "}},
		{"a\r\nb\r", []string{"a\r", "b\r"}},
		{"\r", []string{"\r"}},
		{"a\n\x00", []string{"a", "\x00"}},
		{"\xff\n\xfe", []string{"\xff", "\xfe"}},
		{"a\u2028b\u0085c\vd\fe", []string{"a\u2028b\u0085c\vd\fe"}},
	}
	for _, c := range cases {
		if got := impl.SplitLines(c.s); !sameList(got, c.want) {
			t.Errorf("SplitLines(%q) = %q, want %q", c.s, got, c.want)
		}
	}
	for _, s := range allTexts("a\n\r", 6) {
		want := plainSplit(s, "\n")
		if s == "" || s[len(s)-1] == '\n' {
			want = want[:len(want)-1]
		}
		if got := impl.SplitLines(s); !sameList(got, want) {
			t.Errorf("SplitLines(%q) = %q, want %q", s, got, want)
		}
	}
}

func TestJoin(t *testing.T) {
	cases := []struct {
		l    []string
		by   string
		want string
	}{
		{nil, ",", ""},
		{[]string{}, ",", ""},
		{[]string{""}, ",", ""},
		{[]string{"a"}, ",", "a"},
		{[]string{"", ""}, ",", ","},
		{[]string{"", "", ""}, "ab", "abab"},
		{[]string{"a", "b"}, "", "ab"},
		{[]string{"a", "b", "c"}, ", ", "a, b, c"},
		{[]string{"", "a", ""}, "-", "-a-"},
		{[]string{"a,b", "c"}, ",", "a,b,c"},
		{[]string{"\xc3", "\xa9"}, "", "\u00e9"},
		{[]string{"\xff", "\x00"}, "\xfe", "\xff\xfe\x00"},
	}
	for _, c := range cases {
		if got := impl.Join(c.l, c.by); got != c.want {
			t.Errorf("Join(%q, %q) = %q, want %q", c.l, c.by, got, c.want)
		}
	}
}

func TestPadZeros(t *testing.T) {
	long := strings.Repeat("x", 2500)
	cases := []struct {
		s    string
		n    int
		want string
	}{
		{"", 0, ""},
		{"", 1, "0"},
		{"", 3, "000"},
		{"7", 3, "007"},
		{"7", 2, "07"},
		{"7", 1, "7"},
		{"7", 0, "7"},
		{"7", -1, "7"},
		{"7", math.MinInt, "7"},
		{"7", math.MaxInt, "7"},
		{"1234", 3, "1234"},
		{"-7", 4, "00-7"},
		{"ab", 5, "000ab"},
		{"\u00e9", 3, "0\u00e9"},
		{"\u00e9", 2, "\u00e9"},
		{"\xff", 2, "0\xff"},
		{"7", 2000, strings.Repeat("0", 1999) + "7"},
		{"7", 2001, "7"},
		{"", 2000, strings.Repeat("0", 2000)},
		{"", 2001, ""},
		{long[:1999], 2000, "0" + long[:1999]},
		{long[:2000], 2000, long[:2000]},
		{long[:2000], 2001, long[:2000]},
		{long, 2000, long},
		{long, 2600, long},
	}
	for _, c := range cases {
		if got := impl.PadZeros(c.s, c.n); got != c.want {
			t.Errorf("PadZeros(%.20q, %d) has %d bytes: %.20q", c.s, c.n, len(got), got)
		}
	}
	for n := -5; n <= 2005; n++ {
		want := n
		if n < 3 || n > 2000 {
			want = 3
		}
		if got := impl.PadZeros("abc", n); len(got) != want || got != strings.Repeat("0", want-3)+"abc" {
			t.Errorf("PadZeros(abc, %d) has %d bytes", n, len(got))
		}
	}
}

func TestTextArgumentsAreNotModified(t *testing.T) {
	room := []string{"a", "b", "c", "d"}
	if got := impl.Join(room[:2], ","); got != "a,b" {
		t.Errorf("Join of two elements with room behind them = %q", got)
	}
	if !sameList(room, []string{"a", "b", "c", "d"}) {
		t.Errorf("Join changed its argument to %q", room)
	}
}

func TestTextResultsAreNew(t *testing.T) {
	split := map[string]func() []string{
		"SplitAny":   func() []string { return impl.SplitAny("a,b", ",") },
		"SplitLines": func() []string { return impl.SplitLines("a\nb\n") },
	}
	for name, call := range split {
		first := call()
		second := call()
		first[0] = "changed"
		first = append(first, "more")
		if !sameList(second, []string{"a", "b"}) || !sameList(call(), []string{"a", "b"}) {
			t.Errorf("%s: results share memory, after a change of %q", name, first)
		}
	}
}
