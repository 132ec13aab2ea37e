package ident_test

import (
	"regexp"
	"strings"
	"testing"

	"recycling/api"
	"recycling/ident"
)

var wellFormed = regexp.MustCompile(`\A[A-Za-z][A-Za-z0-9_.-]{0,31}\z`)

// longest is the start of identifiers of every length; one more byte than its own length is too many.
var longest = strings.Repeat("aZ09-_.m", api.MaxName/8)

// invalid are strings that no function of the package takes for identifiers.
var invalid = []string{
	"", "1", "1a", "0", "9z", "-", "-a", "_", "_a", ".", ".a", " ", "\x00", "a b", "a ", " a", "a\n", "\na", "a\t", "a\x00", "\x00a", "a\x7f",
	"a/b", "a:b", "a,b", "a;b", "a@b", "a[b", "a`b", "a{b", "a+b", "a\\b", "a'b", "a\"b", "a*", "@a", "[a", "`a", "{a", "/a", ":a",
	"é", "aé", "éa", "e\u0301", "\u0430", "a\u0430", "\uff21", "a\uff11", "a\u0661", "a\u2010", "a\u00ad", "a\u2024", "a\u00a0b", "a\u200b", "\u212a", "\u017f", "a\U0001d41a",
	"\x80", "a\x80", "\xff", "a\xff", "a\xc3", "\xc3a", "\xe1", "a\xe1", "\xc1\x81", "a\xc1\x81", "\u0100\u0141", "a\u0141",
	strings.Repeat("a", 33), strings.Repeat("a", 34), strings.Repeat("a", 64), strings.Repeat("a", 256+32), strings.Repeat("a", 1<<20), strings.Repeat("é", 32), strings.Repeat("é", 16), "a" + strings.Repeat("é", 8),
}

func TestValid(t *testing.T) {
	for _, s := range []string{
		"a", "z", "A", "Z", "m", "A-1", "x.y_z", "a-", "a_", "a.", "a0", "a9", "a..", "b__-", "a1.2-3_", "az", "aA", "aZ", "Depot-1", longest[:31], longest, strings.Repeat("a", 31), strings.Repeat("z", 32), "Z" + strings.Repeat(".", 31), "q" + strings.Repeat("9", 31),
	} {
		if !ident.Valid(s) {
			t.Errorf("%q is an identifier", s)
		}
	}
	for _, s := range invalid {
		if ident.Valid(s) {
			t.Errorf("%.40q is no identifier", s)
		}
	}
}

func checkValid(t *testing.T, s string) {
	t.Helper()
	if want := wellFormed.MatchString(s); ident.Valid(s) != want {
		t.Errorf("Valid(%q) is %v", s, !want)
	}
}

func TestValidOfAllShortStrings(t *testing.T) {
	checkValid(t, "")
	for first := range 256 {
		checkValid(t, string([]byte{byte(first)}))
		for second := range 256 {
			checkValid(t, string([]byte{byte(first), byte(second)}))
		}
	}
}

// Every byte is tried at every place of strings of every length up to one that is too long.
func TestValidOfChangedIdentifiers(t *testing.T) {
	for length := range api.MaxName + 2 {
		whole := []byte(longest + "a")[:length]
		for place := range whole {
			for c := range 256 {
				changed := append([]byte(nil), whole...)
				changed[place] = byte(c)
				checkValid(t, string(changed))
			}
		}
	}
}

func TestValidOfAllRunes(t *testing.T) {
	for r := range rune(0x110000) {
		s := string(r)
		if ascii := r < 0x80; ident.Valid(s) != (ascii && wellFormed.MatchString(s)) || ident.Valid("a"+s) != (ascii && wellFormed.MatchString("a"+s)) {
			t.Errorf("%q or %q is misjudged", s, "a"+s)
		}
	}
}
