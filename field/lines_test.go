package field_test

import (
	"math/rand"
	"slices"
	"strconv"
	"strings"
	"testing"

	"recycling/api"
	"recycling/field"
)

func equalLists(a, b [][]string) bool {
	return slices.EqualFunc(a, b, slices.Equal[[]string])
}

func checkLines(t *testing.T, text string, want [][]string) {
	t.Helper()
	if lists, e := field.Lines(text); !equalLists(lists, want) || e != api.OK {
		t.Errorf("Lines(%.80q) = %.80q, %d; want %.80q", text, lists, e, want)
	}
}

func checkLinesRefuse(t *testing.T, text string, want api.Errno) {
	t.Helper()
	if lists, e := field.Lines(text); len(lists) != 0 || e != want {
		t.Errorf("Lines(%.80q) = %.80q, %d; want %d", text, lists, e, want)
	}
}

func TestLines(t *testing.T) {
	for _, x := range []struct {
		text string
		want [][]string
	}{
		{"", nil}, {"\n", nil}, {"\n\n\n", nil}, {"#\n", nil}, {"# a\n\n#\n", nil}, {"a\n", [][]string{{"a"}}}, {"a b\n\"c d\" \"\"\n", [][]string{{"a", "b"}, {"c d", ""}}}, {"# a\n\nb c\n", [][]string{{"b", "c"}}},
		{"\na\n\nb\n\n", [][]string{{"a"}, {"b"}}}, {"\"\"\n", [][]string{{""}}}, {"a #\n#b\nc#\n", [][]string{{"a", "#"}, {"c#"}}}, {"\"# a\"\n", [][]string{{"# a"}}}, {"b\na\nb\n", [][]string{{"b"}, {"a"}, {"b"}}},
		{"#\"\n# \\\n#  \n#\t\x00\x7f\xff\r\na\n", [][]string{{"a"}}}, {"##\n#a\n# #\n", nil},
	} {
		checkLines(t, x.text, x.want)
	}
}

func TestLinesRefuse(t *testing.T) {
	for _, text := range []string{
		" ", "a", "#", "# a", "\na", "a\nb", "a\n#", "a\n\n ", "\r", "a\r", "a\n\"", "a\x00", strings.Repeat("a", api.MaxLine+1), strings.Repeat("a", api.MaxLine+1) + "\na", "# a\nb c\nd",
		" \n", "a\n \n", " #\n", " # a\n", "a\n b\n", "a \n", "\"\n", "\"a\"\n", "\"a\nb\"\n", "a  b\n", "\r\n", "a\r\n", "\r#\n", "\t\n", "\x00\n", "\xef\xbb\xbf#\n", "a\nb\nc\nd \n",
	} {
		checkLinesRefuse(t, text, api.ErrForm)
	}
}

// A comment may have any length and any bytes; other lines have the limits of Split, whose first error is returned.
func TestLongTexts(t *testing.T) {
	long := strings.Repeat("a", api.MaxLine+1) + "\n"
	full := strings.Repeat("ab ", api.MaxLine/3) + "c"
	for _, s := range []string{"a", " ", "\x00", "\xff", "\"", "#"} {
		comment := "#" + strings.Repeat(s, 1<<20) + "\n"
		checkLines(t, comment+"a b\n"+comment, [][]string{{"a", "b"}})
		checkLinesRefuse(t, " "+comment, api.ErrFull)
	}
	checkLines(t, full+"\n\n"+full+"\n", [][]string{strings.Split(full, " "), strings.Split(full, " ")})
	checkLinesRefuse(t, full+"d\n", api.ErrFull)
	checkLinesRefuse(t, full+"\n"+full+"d\n", api.ErrFull)
	checkLinesRefuse(t, strings.Repeat("a", api.MaxLine)+"\n", api.ErrForm)
	checkLinesRefuse(t, long, api.ErrFull)
	checkLinesRefuse(t, "a\n"+long+" \n", api.ErrFull)
	checkLinesRefuse(t, "a\n \n"+long, api.ErrForm)
	checkLinesRefuse(t, "#\n"+long+"\n\"\n", api.ErrFull)
	checkLinesRefuse(t, long+"a", api.ErrForm)
	checkLinesRefuse(t, " \n"+long+"a", api.ErrForm)
	checkLines(t, strings.Repeat("\n", 1<<20), nil)
	var many strings.Builder
	var want [][]string
	for i := range 1 << 16 {
		many.WriteString("n" + strconv.Itoa(i) + " \"\"\n\n")
		want = append(want, []string{"n" + strconv.Itoa(i), ""})
	}
	checkLines(t, many.String(), want)
}

// expected is what Lines returns for a text, by its promise.
func expected(text string) ([][]string, api.Errno) {
	lines := strings.Split(text, "\n")
	if lines[len(lines)-1] != "" {
		return nil, api.ErrForm
	}
	var lists [][]string
	for _, line := range lines {
		if line == "" || strings.HasPrefix(line, "#") {
			continue
		}
		l, e := field.Split(line)
		if e != api.OK {
			return nil, e
		}
		lists = append(lists, l)
	}
	return lists, api.OK
}

func TestLinesOfAllShortTexts(t *testing.T) {
	for _, text := range allStrings("a# \"\n", 7) {
		want, wantError := expected(text)
		if lists, e := field.Lines(text); !equalLists(lists, want) || e != wantError {
			t.Errorf("Lines(%q) = %q, %d; want %q, %d", text, lists, e, want, wantError)
		}
	}
}

// Of a text of lines of Join, Lines returns all fields but those of empty lines and of lines that begin with #.
func TestLinesOfJoin(t *testing.T) {
	random := rand.New(rand.NewSource(57))
	for range 500 {
		text := ""
		var want [][]string
		for range random.Intn(20) {
			l := randomFields(random)
			if len(l) > 0 && random.Intn(4) == 0 {
				l[0] = "#" + l[0][:min(len(l[0]), api.MaxText-1)]
			}
			line, e := field.Join(l...)
			if e != api.OK {
				continue
			}
			text += line + "\n"
			if len(l) > 0 && line[0] != '#' {
				want = append(want, l)
			}
		}
		checkLines(t, text, want)
	}
}

func TestListsAreNewMemory(t *testing.T) {
	text := strings.Clone("a b\nabc \"d e\"\n")
	lists, e := field.Lines(text)
	other, _ := field.Lines(text)
	if len(lists) != 2 || len(lists[0]) != 2 || len(lists[1]) != 2 || e != api.OK {
		t.Fatalf("Lines(%q) = %q, %d", text, lists, e)
	}
	for _, f := range slices.Concat(lists...) {
		if sharesMemory(f, text) {
			t.Errorf("field %q is a part of the text", f)
		}
	}
	_ = append(lists[0], "x", "y")
	if !slices.Equal(lists[1], []string{"abc", "d e"}) {
		t.Errorf("the second list changed to %q", lists[1])
	}
	clear(lists[0])
	if !slices.Equal(lists[1], []string{"abc", "d e"}) || !equalLists(other, [][]string{{"a", "b"}, {"abc", "d e"}}) {
		t.Errorf("the other lists changed to %q and %q", lists[1], other)
	}
}
