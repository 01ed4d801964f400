package tests

import (
	"math"
	"slices"
	"strconv"
	"strings"
	"testing"
	"unsafe"

	"loop.example/g00859/impl"
)

func TestFormatInt(t *testing.T) {
	cases := []struct {
		n    int
		want string
	}{
		{0, "0"},
		{1, "1"},
		{9, "9"},
		{10, "10"},
		{-1, "-1"},
		{-10, "-10"},
		{1234567890, "1234567890"},
		{1000000000000000000, "1000000000000000000"},
		{9223372036854775807, "9223372036854775807"},
		{-9223372036854775807, "-9223372036854775807"},
		{-9223372036854775808, "-9223372036854775808"},
	}
	for _, c := range cases {
		if got := impl.FormatInt(c.n); got != c.want {
			t.Errorf("FormatInt(%d) = %q", c.n, got)
		}
	}
}

func TestParseInt(t *testing.T) {
	good := map[string]int{
		"0":                    0,
		"7":                    7,
		"10":                   10,
		"-1":                   -1,
		"-20":                  -20,
		"9223372036854775807":  math.MaxInt,
		"-9223372036854775807": -math.MaxInt,
		"-9223372036854775808": math.MinInt,
	}
	for s, want := range good {
		if n, ok := impl.ParseInt(s); !ok || n != want {
			t.Errorf("ParseInt(%q) = %d, %v", s, n, ok)
		}
	}
	bad := []string{
		"", "-", "+", "--1", "-+1", "1-", "-0", "+0", "+7", "-00", "00", "07", "-07", "007",
		" 1", "1 ", "1 2", "1\n", "\t1", "1.0", "1e3", "0x10", "0b1", "0o7", "1_000", "a", "1a", "a1",
		"9223372036854775808", "-9223372036854775809", "10000000000000000000", "18446744073709551616",
		"18446744073709551617", "99999999999999999999999999999999", "-99999999999999999999999999999999",
		"1" + strings.Repeat("0", 5000), "0" + strings.Repeat("0", 5000),
		"\xff", "1\xff", "\xff1", "1\x00", "\x001", "\u0661", "\uff11", "\u22121", "1,000",
	}
	for _, s := range bad {
		if n, ok := impl.ParseInt(s); ok || n != 0 {
			t.Errorf("ParseInt(%.40q) = %d, %v", s, n, ok)
		}
	}
}

// Of all short texts, exactly those are integers that FormatInt writes.
func TestParseIntShortTexts(t *testing.T) {
	written := map[string]int{}
	for n := -99; n <= 999; n++ {
		written[strconv.Itoa(n)] = n
	}
	for _, s := range textsUpTo(3, "0123456789-+ _.\x00\xff") {
		want, wanted := written[s]
		if n, ok := impl.ParseInt(s); ok != wanted || n != want {
			t.Errorf("ParseInt(%q) = %d, %v", s, n, ok)
		}
	}
}

// textsUpTo lists all texts of at most so many bytes of the alphabet.
func textsUpTo(length int, alphabet string) []string {
	all := []string{""}
	last := all
	for range length {
		var longer []string
		for _, s := range last {
			for i := range len(alphabet) {
				longer = append(longer, s+alphabet[i:i+1])
			}
		}
		all = slices.Concat(all, longer)
		last = longer
	}
	return all
}

func TestIntsFromText(t *testing.T) {
	check := func(n int) {
		got, ok := impl.ParseInt(impl.FormatInt(n))
		if !ok || got != n {
			t.Errorf("%d is recovered as %d, %v", n, got, ok)
		}
	}
	for n := -1100; n <= 1100; n++ {
		check(n)
	}
	for shift := range 64 {
		for near := -2; near <= 2; near++ {
			check(1<<shift + near)
			check(-(1 << shift) + near)
		}
	}
	for power := 1; power <= 1000000000000000000/10; power *= 10 {
		for near := -1; near <= 1; near++ {
			check(power*10 + near)
			check(-power*10 + near)
		}
	}
}

func TestIsDigits(t *testing.T) {
	for _, s := range []string{"0", "9", "09", "00", "0123456789", strings.Repeat("7", 3000)} {
		if !impl.IsDigits(s) {
			t.Errorf("IsDigits(%.40q) is false", s)
		}
	}
	bad := []string{
		"", "-", "-1", "+1", " 1", "1 ", "1 2", "1.5", "a", "1a", "a1", "1/", "1:", "\n", "1\n",
		"\x00", "\xff", "1\xff", "\xff1", "\u0661", "1\u0661", "\uff11", "\u00b2", "\ufffd", "1\ufffd2",
		strings.Repeat("7", 3000) + "x",
	}
	for _, s := range bad {
		if impl.IsDigits(s) {
			t.Errorf("IsDigits(%.40q) is true", s)
		}
	}
}

func TestIsDigitsEveryByte(t *testing.T) {
	for c := range 256 {
		one := string([]byte{byte(c)})
		want := c >= '0' && c <= '9'
		for _, s := range []string{one, "5" + one, one + "5", "5" + one + "5"} {
			if impl.IsDigits(s) != want {
				t.Errorf("IsDigits(%q) is %v", s, !want)
			}
		}
	}
}

func TestIsName(t *testing.T) {
	for _, s := range []string{"a", "z", "a0", "z9", "x1", "abc", "a1b2c3d", "abcdefgh", "z9999999", "r0a"} {
		if !impl.IsName(s) {
			t.Errorf("IsName(%q) is false", s)
		}
	}
	bad := []string{
		"", "0", "1x", "9", "A", "aB", "Ab", "a-b", "a_b", "_a", "a ", " a", "a b", "a.b", "-a", "a\n", "\na",
		"abcdefghi", "a12345678", strings.Repeat("a", 3000), "12345678",
		"\x00", "\xff", "a\xff", "\xffa", "\u00e9", "a\u00e9", "a\u0661", "\uff41", "\ufffd", "a\ufffd",
	}
	for _, s := range bad {
		if impl.IsName(s) {
			t.Errorf("IsName(%.40q) is true", s)
		}
	}
}

func TestIsNameEveryByte(t *testing.T) {
	for c := range 256 {
		one := string([]byte{byte(c)})
		letter := c >= 'a' && c <= 'z'
		other := letter || c >= '0' && c <= '9'
		for s, want := range map[string]bool{
			one: letter, one + "b": letter, one + "1": letter,
			"b" + one: other, "b" + one + "b": other, "bcdefgh" + one: other,
		} {
			if impl.IsName(s) != want {
				t.Errorf("IsName(%q) is %v", s, !want)
			}
		}
	}
}

func TestIsNameLengths(t *testing.T) {
	for length := range 20 {
		for _, s := range []string{strings.Repeat("q", length), "q" + strings.Repeat("4", max(length-1, 0))} {
			want := len(s) >= 1 && len(s) <= 8
			if impl.IsName(s) != want {
				t.Errorf("IsName(%q) is %v", s, !want)
			}
		}
	}
}

func TestSplitAny(t *testing.T) {
	cases := []struct {
		s, by string
		want  []string
	}{
		{"", "", []string{""}},
		{"", ",", []string{""}},
		{"abc", "", []string{"abc"}},
		{"abc", ",", []string{"abc"}},
		{"a,b", ",", []string{"a", "b"}},
		{"a,b c", ", ", []string{"a", "b", "c"}},
		{"a,b c", " ,", []string{"a", "b", "c"}},
		{"a,b c", ",,  ,", []string{"a", "b", "c"}},
		{",", ",", []string{"", ""}},
		{",a", ",", []string{"", "a"}},
		{"a,", ",", []string{"a", ""}},
		{",a,", ",", []string{"", "a", ""}},
		{"a,,b", ",", []string{"a", "", "b"}},
		{"a, b", ", ", []string{"a", "", "b"}},
		{", ;", " ,;", []string{"", "", "", ""}},
		{"aaa", "a", []string{"", "", "", ""}},
		{"abab", "ab", []string{"", "", "", "", ""}},
		{"a\x00b", "\x00", []string{"a", "b"}},
		{"a\nb\n", "\n", []string{"a", "b", ""}},
		{"\u00e9", "\u00e9", []string{"", "", ""}},
		{"x\u00e9y", "\xc3", []string{"x", "\xa9y"}},
		{"x\u00e9y", "\xa9", []string{"x\xc3", "y"}},
		{"x\u00e9y", "\u00e8", []string{"x", "\xa9y"}},
		{"x\u00e9,y", ",", []string{"x\u00e9", "y"}},
		{"a\xffb\xfec", "\xff", []string{"a", "b\xfec"}},
		{"a\xffb", "\ufffd", []string{"a\xffb"}},
		{"a\xff,b", ",", []string{"a\xff", "b"}},
		{"\xe2,\x82", ",", []string{"\xe2", "\x82"}},
	}
	for _, c := range cases {
		if got := impl.SplitAny(c.s, c.by); !slices.Equal(got, c.want) {
			t.Errorf("SplitAny(%q, %q) = %q", c.s, c.by, got)
		}
	}
}

func TestSplitAnyEveryByte(t *testing.T) {
	all := make([]byte, 256)
	for c := range all {
		all[c] = byte(c)
	}
	for c := range all {
		want := []string{string(all[:c]), string(all[c+1:])}
		if got := impl.SplitAny(string(all), string(all[c:c+1])); !slices.Equal(got, want) {
			t.Errorf("the text of all bytes is not split at the byte %d alone", c)
		}
	}
	got := impl.SplitAny(string(all), string(all))
	if !slices.Equal(got, make([]string, 257)) {
		t.Errorf("split at every byte, the text of all bytes has the parts %q", got)
	}
}

func TestSplitLines(t *testing.T) {
	cases := []struct {
		s    string
		want []string
	}{
		{"", nil},
		{"\n", []string{""}},
		{"\n\n", []string{"", ""}},
		{"a", []string{"a"}},
		{"a\n", []string{"a"}},
		{"a\n\n", []string{"a", ""}},
		{"\na", []string{"", "a"}},
		{"a\nb", []string{"a", "b"}},
		{"a\nb\n", []string{"a", "b"}},
		{"a\n\nb\n", []string{"a", "", "b"}},
		{"a b\n c ", []string{"a b", " c "}},
		{"a\n ", []string{"a", " "}},
		{"a\r\nb\r\n", []string{"a\r", "b\r"}},
		{"a\rb", []string{"a\rb"}},
		{"a\vb\fc", []string{"a\vb\fc"}},
		{"a\u2028b\u0085c\n", []string{"a\u2028b\u0085c"}},
		{"\u010a\n", []string{"\u010a"}},
		{"\xff\n\xc3\n\xe2\x82\nb\xff", []string{"\xff", "\xc3", "\xe2\x82", "b\xff"}},
		{"\x00\n\x00", []string{"\x00", "\x00"}},
	}
	for _, c := range cases {
		if got := impl.SplitLines(c.s); !slices.Equal(got, c.want) {
			t.Errorf("SplitLines(%q) = %q", c.s, got)
		}
	}
}

func TestJoin(t *testing.T) {
	cases := []struct {
		l    []string
		by   string
		want string
	}{
		{nil, ",", ""},
		{[]string{}, ",", ""},
		{[]string{""}, ",", ""},
		{[]string{"a"}, ",", "a"},
		{[]string{"", ""}, ",", ","},
		{[]string{"a", "b"}, ",", "a,b"},
		{[]string{"a", "b", "c"}, "", "abc"},
		{[]string{"a", "b", "c"}, "-+-", "a-+-b-+-c"},
		{[]string{"", "a", "", "b", ""}, ";", ";a;;b;"},
		{[]string{"a,b", ","}, ",", "a,b,,"},
		{[]string{"a\n", "b"}, "\n", "a\n\nb"},
		{[]string{"\xc3", "\xa9"}, "", "\u00e9"},
		{[]string{"\xff", "\xfe"}, "\xfd", "\xff\xfd\xfe"},
		{[]string{"\x00", ""}, "\u00e9", "\x00\u00e9"},
	}
	for _, c := range cases {
		if got := impl.Join(c.l, c.by); got != c.want {
			t.Errorf("Join(%q, %q) = %q", c.l, c.by, got)
		}
	}
}

func TestPadZeros(t *testing.T) {
	cases := []struct {
		s    string
		n    int
		want string
	}{
		{"7", 3, "007"},
		{"7", 2, "07"},
		{"7", 1, "7"},
		{"7", 0, "7"},
		{"7", -1, "7"},
		{"7", -3, "7"},
		{"7", math.MinInt, "7"},
		{"7", math.MinInt + 1, "7"},
		{"7", math.MaxInt, "7"},
		{"", 0, ""},
		{"", 4, "0000"},
		{"", -1, ""},
		{"", math.MinInt, ""},
		{"", 2000, strings.Repeat("0", 2000)},
		{"", 2001, ""},
		{"7", 1999, strings.Repeat("0", 1998) + "7"},
		{"7", 2000, strings.Repeat("0", 1999) + "7"},
		{"7", 2001, "7"},
		{"7", 2002, "7"},
		{"1234", 3, "1234"},
		{"1234", 4, "1234"},
		{"1234", 5, "01234"},
		{"-5", 4, "00-5"},
		{"ab", 4, "00ab"},
		{"\u00e9", 2, "\u00e9"},
		{"\u00e9", 3, "0\u00e9"},
		{"\xff", 3, "00\xff"},
		{"\x00", 2, "0\x00"},
		{strings.Repeat("x", 1999), 2000, "0" + strings.Repeat("x", 1999)},
		{strings.Repeat("x", 2000), 2000, strings.Repeat("x", 2000)},
		{strings.Repeat("x", 2001), 2000, strings.Repeat("x", 2001)},
		{strings.Repeat("x", 2001), 3000, strings.Repeat("x", 2001)},
	}
	for _, c := range cases {
		if got := impl.PadZeros(c.s, c.n); got != c.want {
			t.Errorf("PadZeros(%.20q, %d) = %.20q with %d bytes", c.s, c.n, got, len(got))
		}
	}
}

// Every text of up to five bytes over separators, letters and broken UTF-8.
func TestTextFromParts(t *testing.T) {
	for _, s := range textsUpTo(5, ",;\na\xc3\xa9") {
		checkParts(t, s)
	}
}

func checkParts(t *testing.T, s string) {
	for _, by := range []string{",", ";", "\n", "a", "\xa9"} {
		parts := impl.SplitAny(s, by)
		if len(parts) != strings.Count(s, by)+1 || impl.Join(parts, by) != s {
			t.Errorf("SplitAny(%q, %q) = %q", s, by, parts)
		}
	}
	if parts := impl.SplitAny(s, ",\xc3"); !slices.Equal(parts, impl.SplitAny(strings.ReplaceAll(s, "\xc3", ","), ",")) {
		t.Errorf("SplitAny(%q) at two bytes is %q", s, parts)
	}
	lines := impl.SplitLines(s)
	text := impl.Join(lines, "\n")
	if s != "" && strings.HasSuffix(s, "\n") {
		text += "\n"
	}
	if text != s || strings.Contains(strings.Join(lines, ""), "\n") {
		t.Errorf("SplitLines(%q) = %q", s, lines)
	}
}

func TestPartsFromText(t *testing.T) {
	lists := [][]string{{""}, {"", ""}, {"a"}, {"a", ""}, {"", "a"}, {"a", "", "b"}, {"\xc3", "\xa9", "\xff"}}
	for _, l := range lists {
		if got := impl.SplitAny(impl.Join(l, ","), ","); !slices.Equal(got, l) {
			t.Errorf("the parts %q are recovered as %q", l, got)
		}
		if got := impl.SplitLines(impl.Join(l, "\n") + "\n"); !slices.Equal(got, l) {
			t.Errorf("the lines %q are recovered as %q", l, got)
		}
	}
}

func TestJoinKeepsItsArgument(t *testing.T) {
	backing := []string{"a", "b", "spare", "spare"}
	before := slices.Clone(backing)
	impl.Join(backing[:2], ",")
	impl.Join(backing[:0], ",")
	if !slices.Equal(backing, before) {
		t.Errorf("Join changes its argument to %q", backing)
	}
}

func TestTextResultsAreNew(t *testing.T) {
	s := string([]byte("one,two\nthree"))
	for _, parts := range [][]string{impl.SplitAny(s, ","), impl.SplitAny(s, ""), impl.SplitLines(s)} {
		for _, part := range parts {
			if sharesBytes(part, s) {
				t.Errorf("the part %q shares the memory of the text", part)
			}
		}
	}
	if sharesBytes(impl.Join([]string{s}, ","), s) || sharesBytes(impl.PadZeros(s, 1), s) {
		t.Error("a joined or padded text shares the memory of its argument")
	}
	first, second := impl.SplitAny(s, ","), impl.SplitAny(s, ",")
	first[0] = "changed"
	if second[0] != "one" || impl.SplitAny(s, ",")[0] != "one" {
		t.Error("two results of SplitAny share memory")
	}
	lines, again := impl.SplitLines(s), impl.SplitLines(s)
	lines[0] = "changed"
	if again[0] != "one,two" || impl.SplitLines(s)[0] != "one,two" {
		t.Error("two results of SplitLines share memory")
	}
}

func sharesBytes(part string, whole string) bool {
	start := uintptr(unsafe.Pointer(unsafe.StringData(whole)))
	at := uintptr(unsafe.Pointer(unsafe.StringData(part)))
	return part != "" && at >= start && at < start+uintptr(len(whole))
}
