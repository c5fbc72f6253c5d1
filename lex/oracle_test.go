package lex_test

import (
	"iter"
	"math/rand"
	"regexp"
	"strings"
	"testing"
	"unicode/utf8"

	"verdict/api"
	"verdict/dec"
	"verdict/lex"
)

// The chapter's words once more, as patterns.
var (
	blanks  = regexp.MustCompile(`^[ \t\n]+`)
	words   = regexp.MustCompile(`^[\pL_][\pL_0-9]*`)
	numbers = regexp.MustCompile(`^[0-9]+(\.[0-9]+)?`)
	quoted  = regexp.MustCompile(`^"([^"\\\n]|\\["\\n])*"`)
	opened  = regexp.MustCompile(`^"([^"\\\n]|\\["\\n])*\\?`)
	marks   = regexp.MustCompile(`^(\.\.|<=|>=|!=|[-<>=+*/()\[\],])`)
	meaning = strings.NewReplacer(`\"`, `"`, `\\`, `\`, `\n`, "\n")
)

// slow cuts s by the patterns.
func slow(s string) ([]api.Token, api.Fault) {
	if len(s) > api.MaxSource {
		return nil, api.Fault{Err: api.ErrMuch}
	}
	for i := 0; i < len(s); {
		r, n := utf8.DecodeRuneInString(s[i:])
		if r == utf8.RuneError && n == 1 {
			return nil, api.Fault{Err: api.ErrForm, At: i}
		}
		i += n
	}
	var out []api.Token
	for at := 0; at < len(s); {
		left := s[at:]
		if m := blanks.FindString(left); m != "" {
			at += len(m)
			continue
		}
		n := 0
		if m := words.FindString(left); m != "" {
			n = len(m)
			out = append(out, word(m, at))
		} else if m := numbers.FindString(left); m != "" {
			d, err := dec.Parse(m)
			if err != api.OK {
				return nil, api.Fault{Err: err, At: at}
			}
			n = len(m)
			out = append(out, num(m, d.Coef, d.Exp, at))
		} else if m := quoted.FindString(left); m != "" {
			n = len(m)
			out = append(out, text(meaning.Replace(m[1:n-1]), at))
		} else if m := marks.FindString(left); m != "" {
			n = len(m)
			out = append(out, sign(m, at))
		} else {
			return nil, api.Fault{Err: api.ErrForm, At: at + len(opened.FindString(left))}
		}
		at += n
	}
	return out, api.Fault{}
}

// same holds what Tokens says against what slow says.
func same(t *testing.T, s string) {
	t.Helper()
	want, fault := slow(s)
	if fault.Err != api.OK {
		isFault(t, s, fault.Err, fault.At)
		return
	}
	isTokens(t, s, want...)
}

// texts are all that are made of at most that many parts.
func texts(most int, parts ...string) iter.Seq[string] {
	return func(yield func(string) bool) {
		var from func(s string, left int) bool
		from = func(s string, left int) bool {
			if !yield(s) {
				return false
			}
			for _, p := range parts {
				if left > 0 && !from(s+p, left-1) {
					return false
				}
			}
			return true
		}
		from("", most)
	}
}

func TestC1AsThePatternsSay(t *testing.T) {
	for s := range texts(4, "a", "é", "_", "0", "7", ".", "<", "=", "!", "-", `"`, `\`, "n", "\n", " ", "#", "\xff") {
		same(t, s)
	}
	for s := range texts(6, `"`, `\`, "n", "\n", "é") {
		same(t, s)
	}
	for s := range texts(7, "0", "1", ".", "a") {
		same(t, s)
	}
}

func TestC1AsThePatternsSayOfLongTexts(t *testing.T) {
	parts := []string{"a", "Zebra", "é日", "_x1", "0", "1", "42", "0.5", "1.25", "..", ".", "<=", ">=", "!=", "<", ">", "=", "+", "-", "*", "/", "(", ")", "[", "]", ",", `"`, `"b"`, `"\n\\\""`, `"a b`, " ", "  ", "\t", "\n", "00", strings.Repeat("9", 99), "#", "\xff", "٣", "\ufffd"}
	seeded := rand.New(rand.NewSource(3))
	for range 20000 {
		var s strings.Builder
		// Faults are rare in some texts, so that these grow long ones without any.
		kinds := len(parts) - 4*seeded.Intn(4)
		for range seeded.Intn(30) {
			s.WriteString(parts[seeded.Intn(kinds)])
		}
		same(t, s.String())
	}
}

func FuzzTokens(f *testing.F) {
	for _, s := range []string{"", "a b1 é", "1..5 1.5", `"a\"b\\\n"`, "<= >= != ..", "\xff", "\"\\", "007"} {
		f.Add(s)
	}
	f.Fuzz(func(t *testing.T, s string) {
		same(t, s)
		if back, fault := lex.Tokens(lex.Quote(s)); utf8.ValidString(s) && len(lex.Quote(s)) <= api.MaxSource && (fault != (api.Fault{}) || len(back) != 1 || back[0] != text(s, 0)) {
			t.Errorf("%q: %+v, %+v comes back", s, back, fault)
		}
	})
}
