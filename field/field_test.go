package field_test

import (
	"math/rand"
	"slices"
	"strings"
	"testing"
	"unsafe"

	"recycling/api"
	"recycling/field"
)

var (
	longest = strings.Repeat("0123456789abcdef", api.MaxText/16)
	blanks  = strings.Repeat(" ", api.MaxText)
	slashes = strings.Repeat(`\`, api.MaxText)
	marks   = strings.Repeat(`"`, api.MaxText)
)

// written is the written form of a field, by its definition.
func written(f string) string {
	if f != "" && !strings.Contains(f, " ") && !strings.Contains(f, `"`) && !strings.Contains(f, `\`) {
		return f
	}
	return `"` + strings.ReplaceAll(strings.ReplaceAll(f, `\`, `\\`), `"`, `\"`) + `"`
}

// lineOf is the line of some fields, by its definition.
func lineOf(l []string) string {
	forms := make([]string, len(l))
	for i, f := range l {
		forms[i] = written(f)
	}
	return strings.Join(forms, " ")
}

// checkLine fails unless line is the line of the fields l, for both functions.
func checkLine(t *testing.T, line string, l []string) {
	t.Helper()
	if fields, e := field.Split(line); !slices.Equal(fields, l) || e != api.OK {
		t.Errorf("Split(%q) = %q, %d; want %q", line, fields, e, l)
	}
	before := slices.Clone(l)
	if joined, e := field.Join(l...); joined != line || e != api.OK {
		t.Errorf("Join(%q) = %q, %d; want %q", l, joined, e, line)
	}
	if !slices.Equal(l, before) {
		t.Errorf("Join changed %q to %q", before, l)
	}
}

func checkSplitRefuses(t *testing.T, line string, want api.Errno) {
	t.Helper()
	if l, e := field.Split(line); len(l) != 0 || e != want {
		t.Errorf("Split(%.80q) = %.80q, %d; want %d", line, l, e, want)
	}
}

func checkJoinRefuses(t *testing.T, l []string, want api.Errno) {
	t.Helper()
	if line, e := field.Join(l...); line != "" || e != want {
		t.Errorf("Join(%.80q) = %.80q, %d; want %d", l, line, e, want)
	}
}

func TestLinesOfFields(t *testing.T) {
	for _, x := range []struct {
		line string
		l    []string
	}{
		{``, nil}, {`a`, []string{"a"}}, {`a b`, []string{"a", "b"}}, {`abc de f`, []string{"abc", "de", "f"}}, {`""`, []string{""}}, {`"" ""`, []string{"", ""}}, {`a ""`, []string{"a", ""}}, {`"" a`, []string{"", "a"}},
		{`a "b c" ""`, []string{"a", "b c", ""}}, {`"say \"x\""`, []string{`say "x"`}}, {`"\\"`, []string{`\`}}, {`"\""`, []string{`"`}}, {`"\\\""`, []string{`\"`}}, {`"\"\\"`, []string{`"\`}}, {`"\\\\"`, []string{`\\`}}, {`"\\n"`, []string{`\n`}},
		{`" "`, []string{" "}}, {`"  " " "`, []string{"  ", " "}}, {`" a"`, []string{" a"}}, {`"a "`, []string{"a "}}, {`"a\" b"`, []string{`a" b`}}, {`"a\\ b"`, []string{`a\ b`}}, {`"a \\"`, []string{`a \`}}, {`"\" \"" "\" \""`, []string{`" "`, `" "`}},
		{`"\\" "\\"`, []string{`\`, `\`}}, {`"\\" a "\""`, []string{`\`, "a", `"`}}, {`"\"\" \"\""`, []string{`"" ""`}}, {`"a b" c "d e"`, []string{"a b", "c", "d e"}}, {`# a`, []string{"#", "a"}}, {`#a`, []string{"#a"}}, {`it's ~!{}[]`, []string{"it's", "~!{}[]"}}, {`-12 007 +5`, []string{"-12", "007", "+5"}},
	} {
		checkLine(t, x.line, x.l)
	}
}

func TestSplitRefuses(t *testing.T) {
	for _, line := range []string{
		" ", "  ", "   ", " a", "a ", "  a", "a  ", "a  b", "a   b", " a b", "a b ", `a  ""`, `""  a`, `"" `, ` ""`, `""  ""`, `"a b" `, ` "a b"`, `"a b"  "c d"`,
		`"`, `"a`, `"a b`, `a "`, `a "b`, `a "b c`, `a"`, `a"b`, `a"b"`, `a""`, `a"b c"`, `"a"b`, `"a b"c`, `"a b""c d"`, `""a`, `""""`, `"""`, `"" "`, `"a b" "`,
		`"a"`, `"#"`, `"ab"`, `a "b"`, `"a" b`, `"a b" "c"`, `"-12"`,
		`\`, `\\`, `\"`, `\ `, `a\`, `a\b`, `a\ b`, `a\"b`, `"\`, `"\"`, `"\\`, `"\\\"`, `"\\"\`, `"\\"\\"`, `"\a"`, `"\a b"`, `"a\b c"`, `"\ "`, `"a\ b"`, `"a b\"`, `"a b\`, `"\n "`, `"\x20"`, `"\\\"`, `"\\\\\"`, `"a " b"`, `"a"b c"`,
		"\n", "a\n", "\na", "a\nb", "a b\n", "\"a \n\"", "\t", "a\tb", "\"a \tb\"", "a\rb", "a\r", "\x00", "a\x00", "\x1f", "\x7f", "a\x7f", "\"a \x7f\"", "\x80", "\xff", "é", "a é", "\" é\"", "\u00a0", "a\u00a0b", "\u2003", "\u201ca b\u201d", "\U0001f600",
	} {
		checkSplitRefuses(t, line, api.ErrForm)
	}
}

// All strings of up to seven bytes of a small alphabet are split; those that are no line of a list of fields are refused.
func TestSplitOfAllShortStrings(t *testing.T) {
	const alphabet, longestLine = "a# \"\\\n", 7
	lists := shortLines(t, alphabet, longestLine)
	for _, line := range allStrings(alphabet, longestLine) {
		if l, found := lists[line]; found {
			checkLine(t, line, l)
		} else {
			checkSplitRefuses(t, line, api.ErrForm)
		}
	}
}

// shortLines are all lists of fields whose lines have at most limit bytes, by their lines.
func shortLines(t *testing.T, alphabet string, limit int) map[string][]string {
	var fields []string
	for _, f := range allStrings(strings.ReplaceAll(alphabet, "\n", ""), limit) {
		if len(written(f)) <= limit {
			fields = append(fields, f)
		}
	}
	lists := map[string][]string{}
	var extend func(l []string)
	extend = func(l []string) {
		line := lineOf(l)
		if len(line) > limit {
			return
		}
		if other, found := lists[line]; found {
			t.Errorf("%q and %q have the same line", l, other)
		}
		lists[line] = l
		for _, f := range fields {
			if len(line)+1+len(written(f)) <= limit || len(l) == 0 {
				extend(append(slices.Clip(l), f))
			}
		}
	}
	extend(nil)
	return lists
}

// allStrings are all strings of up to limit bytes of an alphabet.
func allStrings(alphabet string, limit int) []string {
	all := []string{""}
	for first := 0; len(all[first]) < limit; first++ {
		for _, c := range []byte(alphabet) {
			all = append(all, all[first]+string([]byte{c}))
		}
	}
	return all
}

// Every byte is tried as a field, and at the beginning, inside and at the end of fields with and without quotation marks.
func TestAllBytes(t *testing.T) {
	for c := range 256 {
		s := string([]byte{byte(c)})
		for _, f := range []string{s, s + "a", "a" + s, "a" + s + "b", s + s, s + " a", " " + s, "a " + s + "b", longest[1:] + s, s + longest[1:], s + `"`, `\` + s} {
			for _, l := range [][]string{{f}, {"x", f}, {f, "", f}} {
				line := lineOf(l)
				if c >= 32 && c <= 126 {
					checkLine(t, line, l)
				} else {
					checkSplitRefuses(t, line, api.ErrForm)
					checkJoinRefuses(t, l, api.ErrForm)
				}
			}
		}
	}
}

func TestLongFields(t *testing.T) {
	for _, f := range []string{longest, longest[1:], blanks, slashes, marks, longest[1:] + " ", longest[1:] + `"`, longest[1:] + `\`, " " + longest[1:]} {
		checkLine(t, written(f), []string{f})
		checkLine(t, "x "+written(f)+` ""`, []string{"x", f, ""})
		for _, long := range []string{f + "a", "a" + f, f + " ", f + `"`, f + `\`} {
			if len(long) <= api.MaxText {
				continue
			}
			checkSplitRefuses(t, written(long), api.ErrForm)
			checkSplitRefuses(t, `"" `+written(long), api.ErrForm)
			checkJoinRefuses(t, []string{long}, api.ErrFull)
			checkJoinRefuses(t, []string{"", long}, api.ErrFull)
		}
	}
}

func TestLongLines(t *testing.T) {
	for _, l := range [][]string{
		{longest, longest, longest, longest[:253]}, {longest[:253], longest, longest, longest}, {slashes, marks[:252], "ab"}, {blanks, blanks, blanks, blanks[:245]}, strings.Split(strings.Repeat("a ", 510)+"abcd", " "), append(make([]string, 340), "abcd"),
	} {
		line := lineOf(l)
		if len(line) != api.MaxLine {
			t.Fatalf("the line of %q has %d bytes", l, len(line))
		}
		checkLine(t, line, l)
		for i := range l {
			if len(l[i]) == api.MaxText {
				continue
			}
			longer := slices.Clone(l)
			longer[i] += "b"
			if len(lineOf(longer)) > api.MaxLine {
				checkJoinRefuses(t, longer, api.ErrFull)
				checkSplitRefuses(t, lineOf(longer), api.ErrFull)
			}
		}
		for _, longer := range [][]string{append(slices.Clip(l), "b"), append([]string{""}, l...)} {
			checkJoinRefuses(t, longer, api.ErrFull)
			checkSplitRefuses(t, lineOf(longer), api.ErrFull)
		}
	}
	checkLine(t, strings.Repeat(`"" `, 340)+"abc", append(make([]string, 340), "abc"))
}

// The length of a line comes before its form.
func TestErrorsOfSplit(t *testing.T) {
	for _, pattern := range []string{"a", " ", `"`, `\`, "\n", "\x00", "\xff", "é", "a ", `"" `, `"a`, "#"} {
		whole := strings.Repeat(pattern, 1<<16)
		for _, length := range []int{api.MaxLine + 1, api.MaxLine + 2, 2 * api.MaxLine, 1 << 16} {
			checkSplitRefuses(t, whole[:length], api.ErrFull)
		}
		if pattern != "a " && pattern != `"" ` {
			checkSplitRefuses(t, whole[:api.MaxLine], api.ErrForm)
		}
	}
}

// The first element that is no field decides, and its length comes before its bytes; the line comes last.
func TestErrorsOfJoin(t *testing.T) {
	long, bad := longest+"a", "a\n"
	full := []string{longest, longest, longest, longest, longest}
	for _, x := range []struct {
		l    []string
		want api.Errno
	}{
		{[]string{bad}, api.ErrForm}, {[]string{"a", bad}, api.ErrForm}, {[]string{"a", "", "b c", "\x7f"}, api.ErrForm}, {[]string{long}, api.ErrFull}, {[]string{"a", long}, api.ErrFull},
		{[]string{long, bad}, api.ErrFull}, {[]string{bad, long}, api.ErrForm}, {[]string{"a", long, bad}, api.ErrFull}, {[]string{"a", bad, long}, api.ErrForm},
		{[]string{longest + "\n"}, api.ErrFull}, {[]string{"\n" + longest}, api.ErrFull}, {[]string{longest + "\n", "\n"}, api.ErrFull}, {[]string{"\n", longest + "\n"}, api.ErrForm}, {[]string{longest[1:] + "\n"}, api.ErrForm}, {[]string{strings.Repeat("\xff", 1<<20)}, api.ErrFull},
		{full, api.ErrFull}, {append(slices.Clip(full), bad), api.ErrForm}, {append(slices.Clip(full), long), api.ErrFull}, {append(slices.Clip(full), long, bad), api.ErrFull}, {append(slices.Clip(full), bad, long), api.ErrForm}, {append([]string{bad}, full...), api.ErrForm},
		{make([]string, 1<<20), api.ErrFull}, {append(make([]string, 1<<20), bad), api.ErrForm}, {append(make([]string, 1<<20), long, bad), api.ErrFull},
	} {
		checkJoinRefuses(t, x.l, x.want)
	}
}

// Written forms of single fields have quotation marks only where they need them.
func TestOnlyNecessaryMarks(t *testing.T) {
	for _, f := range allStrings("ab# \"\\", 5) {
		line, e := field.Join(f)
		plain := f != "" && !strings.ContainsAny(f, ` "\`)
		if (line == f) != plain || e != api.OK {
			t.Errorf("Join(%q) = %q, %d", f, line, e)
		}
	}
}

// Lists of fields of all lengths, made of all bytes of fields, return from their lines.
func TestRoundTrip(t *testing.T) {
	random := rand.New(rand.NewSource(5))
	for range 20000 {
		l := randomFields(random)
		line := lineOf(l)
		if len(line) > api.MaxLine {
			checkJoinRefuses(t, l, api.ErrFull)
			checkSplitRefuses(t, line, api.ErrFull)
			continue
		}
		checkLine(t, line, l)
		changed := []byte(line)
		if len(changed) > 0 {
			changed[random.Intn(len(changed))] = ` "\a~`[random.Intn(5)]
		}
		if fields, e := field.Split(string(changed)); e == api.OK && lineOf(fields) != string(changed) || e != api.OK && (len(fields) != 0 || e != api.ErrForm) {
			t.Errorf("Split(%q) = %q, %d", changed, fields, e)
		}
	}
}

func randomFields(random *rand.Rand) []string {
	l := make([]string, random.Intn(12))
	for i := range l {
		f := make([]byte, random.Intn(1+random.Intn(1+random.Intn(api.MaxText))))
		for j := range f {
			f[j] = byte(32 + random.Intn(95))
			if random.Intn(4) == 0 {
				f[j] = ` "\`[random.Intn(3)]
			}
		}
		l[i] = string(f)
	}
	return l
}

// sharesMemory reports whether a byte belongs to both strings.
func sharesMemory(a, b string) bool {
	if a == "" || b == "" {
		return false
	}
	startA, startB := uintptr(unsafe.Pointer(unsafe.StringData(a))), uintptr(unsafe.Pointer(unsafe.StringData(b)))
	return startA < startB+uintptr(len(b)) && startB < startA+uintptr(len(a))
}

func TestResultsAreNewMemory(t *testing.T) {
	line := strings.Clone(`abc "d e" fgh "i\"j"`)
	first, e := field.Split(line)
	if len(first) != 4 || e != api.OK {
		t.Fatalf("Split(%q) = %q, %d", line, first, e)
	}
	for i, f := range first {
		if sharesMemory(f, line) {
			t.Errorf("field %d is a part of the line", i)
		}
	}
	second, _ := field.Split(line)
	clear(first)
	if !slices.Equal(second, []string{"abc", "d e", "fgh", `i"j`}) {
		t.Errorf("the fields changed to %q", second)
	}
	l := []string{strings.Clone("abc"), "d e", "rest"}[:2]
	for n := range 3 {
		if joined, _ := field.Join(l[:n]...); sharesMemory(joined, l[0]) {
			t.Errorf("the line of %d fields is a part of one", n)
		}
	}
	if l = l[:3]; l[0] != "abc" || l[1] != "d e" || l[2] != "rest" {
		t.Errorf("Join changed its list to %q", l)
	}
}
