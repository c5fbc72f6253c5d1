package lex_test

import (
	"reflect"
	"strings"
	"testing"
	"unicode"
	"unicode/utf8"
	"unsafe"

	"verdict/api"
	"verdict/lex"
)

func word(text string, at int) api.Token {
	return api.Token{Kind: api.TWord, Text: text, At: at}
}

func num(text string, coef int64, exp, at int) api.Token {
	return api.Token{Kind: api.TNum, Text: text, Num: api.Dec{Coef: coef, Exp: exp}, At: at}
}

func text(said string, at int) api.Token {
	return api.Token{Kind: api.TText, Text: said, At: at}
}

func sign(text string, at int) api.Token {
	return api.Token{Kind: api.TSign, Text: text, At: at}
}

// isTokens checks all fields, and that no fault is told.
func isTokens(t *testing.T, s string, want ...api.Token) {
	t.Helper()
	got, fault := lex.Tokens(s)
	if fault != (api.Fault{}) || len(got) != len(want) || len(got) > 0 && !reflect.DeepEqual(got, want) {
		t.Errorf("%q: %+v, %+v comes, not %+v", s, got, fault, want)
	}
}

// isFault also checks that beside it there is nothing.
func isFault(t *testing.T, s string, err api.Errno, at int) {
	t.Helper()
	got, fault := lex.Tokens(s)
	if len(got) > 0 || fault != (api.Fault{Err: err, At: at}) {
		t.Errorf("%q: %+v, %+v comes, not %d at %d", s, got, fault, err, at)
	}
}

func TestC1Example(t *testing.T) {
	isTokens(t, "é1 >= 0.5", word("é1", 0), sign(">=", 4), num("0.5", 5, -1, 7))
}

func TestC1Blanks(t *testing.T) {
	for _, s := range []string{"", " ", "\t", "\n", " \t\n\n\t  "} {
		isTokens(t, s)
	}
	isTokens(t, " a\tb\nc ", word("a", 1), word("b", 3), word("c", 5))
	for _, s := range []string{"\r", "\v", "\f", "\u0085", "\u00a0", "\u2003", "\u2028", "\ufeff", "\x00"} {
		isFault(t, s, api.ErrForm, 0)
		isFault(t, "a "+s+" b", api.ErrForm, 2)
	}
}

func TestC1Words(t *testing.T) {
	for _, s := range []string{"a", "Z", "_", "__", "_1", "a0b9", "é日本", "ªº", "ǅ", "ʰ", "ب3", "𝒳", "null", "if"} {
		isTokens(t, s, word(s, 0))
		isTokens(t, "("+s+")", sign("(", 0), word(s, 1), sign(")", 1+len(s)))
	}
	isTokens(t, "1a", num("1", 1, 0, 0), word("a", 1))
	isTokens(t, "1_2", num("1", 1, 0, 0), word("_2", 1))
	isTokens(t, "a-b", word("a", 0), sign("-", 1), word("b", 2))
	isTokens(t, `a"b"c`, word("a", 0), text("b", 1), word("c", 4))
	isTokens(t, "1e5", num("1", 1, 0, 0), word("e5", 1))
	// Neither marks nor digits and numbers of other kinds are part of a word.
	for _, s := range []string{"\u0301", "٣", "Ⅷ", "²", "½", "$", "🙂", "@", "'"} {
		isFault(t, s, api.ErrForm, 0)
		isFault(t, "ab"+s, api.ErrForm, 2)
	}
	isFault(t, "a.b", api.ErrForm, 1)
}

func TestC1LettersAreThoseOfCategoryL(t *testing.T) {
	for r := rune(utf8.RuneSelf); r <= unicode.MaxRune; r++ {
		if !utf8.ValidRune(r) {
			continue
		}
		got, fault := lex.Tokens(string(r))
		is := fault.Err == api.OK && len(got) == 1 && got[0] == word(string(r), 0)
		if is != unicode.Is(unicode.L, r) || !is && fault != (api.Fault{Err: api.ErrForm}) {
			t.Errorf("%U: %+v, %+v comes", r, got, fault)
		}
	}
}

func TestC1Numbers(t *testing.T) {
	isTokens(t, "0", num("0", 0, 0, 0))
	isTokens(t, "0.0", num("0.0", 0, 0, 0))
	isTokens(t, "0.50", num("0.50", 5, -1, 0))
	isTokens(t, "1200", num("1200", 12, 2, 0))
	isTokens(t, "1.05 2", num("1.05", 105, -2, 0), num("2", 2, 0, 5))
	isTokens(t, "-7", sign("-", 0), num("7", 7, 0, 1))
	isTokens(t, "1.007", num("1.007", 1007, -3, 0))
	isTokens(t, "1..5", num("1", 1, 0, 0), sign("..", 1), num("5", 5, 0, 3))
	isTokens(t, "1.5..2.5", num("1.5", 15, -1, 0), sign("..", 3), num("2.5", 25, -1, 5))
	isTokens(t, "1..", num("1", 1, 0, 0), sign("..", 1))
	isTokens(t, "..1", sign("..", 0), num("1", 1, 0, 2))
	// What has more digits than a number may have is rounded.
	isTokens(t, "1234567890123456785", num("1234567890123456785", 123456789012345678, 1, 0))
	for _, c := range []struct {
		s  string
		at int
	}{
		{"1.", 1}, {"1.a", 1}, {"1. 5", 1}, {"1.٣", 1}, {".5", 0}, {"1.5.5", 3}, {"1...5", 3}, {"1. .5", 1}, {"1٣", 1},
		{"007", 0}, {"00", 0}, {"01.5", 0}, {"a 00", 2}, {"1 +\n02", 4},
	} {
		isFault(t, c.s, api.ErrForm, c.at)
	}
}

func TestC1NumbersThatAreTooMuch(t *testing.T) {
	long := "0." + strings.Repeat("1", api.MaxDigits-2)
	got, fault := lex.Tokens("a " + long)
	if fault != (api.Fault{}) || len(got) != 2 || got[1] != num(long, 111111111111111111, -18, 2) {
		t.Errorf("%+v, %+v comes", got, fault)
	}
	isFault(t, "a "+long+"1", api.ErrMuch, 2)
	isFault(t, strings.Repeat("1", api.MaxSource), api.ErrMuch, 0)
	// As long as it may be, but greater than a number may be.
	isFault(t, "a +1"+strings.Repeat("0", 60), api.ErrMuch, 3)
	// Too long is told ahead of noughts that stand in front, as chapter 1 asks.
	isFault(t, "0"+long, api.ErrMuch, 0)
	isFault(t, "0"+long[:api.MaxDigits-1], api.ErrForm, 0)
}

func TestC1Texts(t *testing.T) {
	for s, said := range map[string]string{
		`""`:               "",
		`"a"`:              "a",
		`" # ' é🙂 "`:       " # ' é🙂 ",
		`"\""`:             `"`,
		`"\\"`:             `\`,
		`"\n"`:             "\n",
		`"\\n"`:            `\n`,
		`"\\\""`:           `\"`,
		`"\n\n\\\\\"\""`:   "\n\n\\\\\"\"",
		"\"\t\r\x00\"":     "\t\r\x00",
		"\"\ufffd\u2028\"": "\ufffd\u2028",
		`"null"`:           "null",
		`"007 1."`:         "007 1.",
	} {
		isTokens(t, s, text(said, 0))
		isTokens(t, "é "+s+"1", word("é", 0), text(said, 3), num("1", 1, 0, 3+len(s)))
	}
	isTokens(t, `"a""b"`, text("a", 0), text("b", 3))
	long := strings.Repeat("a", api.MaxSource-2)
	isTokens(t, `"`+long+`"`, text(long, 0))
}

func TestC1TextsThatAreWrong(t *testing.T) {
	for _, c := range []struct {
		s  string
		at int
	}{
		{`"`, 1}, {`"a`, 2}, {`"é`, 3}, {`a "b`, 4}, {`"a"b"`, 5}, {`"""`, 3},
		{"\"\n\"", 1}, {"\"a\nb\"", 2}, {"\"é\n", 3}, {"x \"\\n\n\"", 5},
		{`"\x"`, 2}, {`"a\t"`, 3}, {`"\N"`, 2}, {`"\é"`, 2}, {`"\ "`, 2}, {`"\\\x"`, 4}, {`"\n\'`, 4}, {"\"\\\ufffd\"", 2}, {"\"\\\x00\"", 2},
		{"\"\\\n\"", 2}, {`"\`, 2}, {`"\"`, 3}, {`"a\\\`, 5},
		// The first one is told.
		{"\"\\x\n", 2}, {"\"a\n\\x", 2}, {`"\x #`, 2}, {`"a" # "\x"`, 4},
	} {
		isFault(t, c.s, api.ErrForm, c.at)
	}
}

func TestC1Signs(t *testing.T) {
	all := strings.Fields(".. <= >= != < > = + - * / ( ) [ ] ,")
	for _, a := range all {
		isTokens(t, a, sign(a, 0))
		isTokens(t, a+a, signsOf(a+a)...)
		isTokens(t, "a"+a+"b", word("a", 0), sign(a, 1), word("b", 1+len(a)))
		for _, b := range all {
			isTokens(t, a+" "+b, sign(a, 0), sign(b, len(a)+1))
		}
	}
	isTokens(t, "<=>=!=..", sign("<=", 0), sign(">=", 2), sign("!=", 4), sign("..", 6))
	isTokens(t, "=<=", sign("=", 0), sign("<=", 1))
	isTokens(t, "<==", sign("<=", 0), sign("=", 2))
	isTokens(t, "<>", sign("<", 0), sign(">", 1))
	isTokens(t, "< =", sign("<", 0), sign("=", 2))
	isTokens(t, "....", sign("..", 0), sign("..", 2))
	for _, s := range []string{".", "!", "#", "&", "|", "{", "}", ";", ":", "'", "`", "\\", "^", "%", "?", "~", "@", "$", "\x7f", "! =", ". ."} {
		isFault(t, s, api.ErrForm, 0)
		isFault(t, "a<="+s, api.ErrForm, 3)
	}
	isFault(t, "...", api.ErrForm, 2)
	isFault(t, "=!", api.ErrForm, 1)
}

// signsOf is what a sign makes that stands there twice: just these two, since neither `==` nor `<<` is one.
func signsOf(s string) []api.Token {
	half := len(s) / 2
	return []api.Token{sign(s[:half], 0), sign(s[half:], half)}
}

func TestC1WhatIsNoUTF8(t *testing.T) {
	for _, bad := range []string{"\xff", "\x80", "\xc3", "\xe2\x82", "\xf0\x9f\x99", "\xed\xa0\x80", "\xc0\x80", "\xe0\x80\x80", "\xf4\x90\x80\x80", "\xef\xbf"} {
		isFault(t, bad, api.ErrForm, 0)
		isFault(t, "aé"+bad, api.ErrForm, 3)
		isFault(t, "é"+bad+"b", api.ErrForm, 2)
		isFault(t, `"`+bad+`"`, api.ErrForm, 1)
		isFault(t, "1 "+bad+bad, api.ErrForm, 2)
		// It is told ahead of what is wrong with tokens, wherever these stand.
		isFault(t, "# "+bad, api.ErrForm, 2)
		isFault(t, "007 "+bad, api.ErrForm, 4)
		isFault(t, strings.Repeat("1", 200)+bad, api.ErrForm, 200)
		isFault(t, "\"\n"+bad, api.ErrForm, 2)
	}
	// The rune that stands for what is none is one itself.
	isFault(t, "a \ufffd", api.ErrForm, 2)
	isFault(t, "\ufffda\xff", api.ErrForm, 4)
	isTokens(t, "\"\ufffd\"", text("\ufffd", 0))
}

func TestC1TooLong(t *testing.T) {
	most := strings.Repeat("é", api.MaxSource/2)
	isTokens(t, most, word(most, 0))
	isTokens(t, strings.Repeat(" ", api.MaxSource))
	for _, s := range []string{most + "a", most + " ", most + "\xff", "\xff" + most, "#" + most, strings.Repeat(" ", api.MaxSource+1), strings.Repeat("a", 1<<20)} {
		isFault(t, s, api.ErrMuch, 0)
	}
	isFault(t, most[2:]+"a#", api.ErrForm, api.MaxSource-1)
	isFault(t, most[2:]+"a\xff", api.ErrForm, api.MaxSource-1)
	got, fault := lex.Tokens(strings.Repeat("(", api.MaxSource))
	if fault != (api.Fault{}) || len(got) != api.MaxSource || got[api.MaxSource-1] != sign("(", api.MaxSource-1) {
		t.Errorf("%d tokens, %+v come", len(got), fault)
	}
}

func TestC1WhicheverIsMetFirst(t *testing.T) {
	much := "1" + strings.Repeat("0", 60)
	isFault(t, "# 007", api.ErrForm, 0)
	isFault(t, "007 #", api.ErrForm, 0)
	isFault(t, much+" #", api.ErrMuch, 0)
	isFault(t, "# "+much, api.ErrForm, 0)
	isFault(t, "007 "+much, api.ErrForm, 0)
	isFault(t, "a "+much+" 007 \"", api.ErrMuch, 2)
	isFault(t, "\" "+much, api.ErrForm, 2+len(much))
}

// What is answered is the caller's: no later call sees what becomes of it, and nothing of s is in it.
func TestC1AnswersAreNewMemory(t *testing.T) {
	s := strings.Repeat(`abc 12.5 "text" <= `, 3)
	want, _ := lex.Tokens(s)
	got, _ := lex.Tokens(s)
	clear(got[:cap(got)])
	isTokens(t, s, want...)
	from := uintptr(unsafe.Pointer(unsafe.StringData(s)))
	for _, token := range want {
		if at := uintptr(unsafe.Pointer(unsafe.StringData(token.Text))); from <= at && at < from+uintptr(len(s)) {
			t.Errorf("%+v lies in what was handed in", token)
		}
	}
}

func TestC2Quote(t *testing.T) {
	for s, want := range map[string]string{
		"":                     `""`,
		"a":                    `"a"`,
		`"`:                    `"\""`,
		`\`:                    `"\\"`,
		"\n":                   `"\n"`,
		`\n`:                   `"\\n"`,
		`a"b\c` + "\n" + `d`:   `"a\"b\\c\nd"`,
		`""\\` + "\n\n":        `"\"\"\\\\\n\n"`,
		"\t\r\x00 'é日🙂\ufffd":  "\"\t\r\x00 'é日🙂\ufffd\"",
		"\xff":                 "\"\xff\"",
		"\xe2\x82\"\xc3\n\x80": "\"\xe2\x82\\\"\xc3\\n\x80\"",
		"\xed\xa0\x80\\":       "\"\xed\xa0\x80\\\\\"",
	} {
		if got := lex.Quote(s); got != want {
			t.Errorf("%q: %q comes, not %q", s, got, want)
		}
	}
}

func TestC2QuoteOfEachByte(t *testing.T) {
	for b := range 256 {
		s := string([]byte{byte(b)})
		want := `"` + s + `"`
		switch b {
		case '"', '\\':
			want = `"\` + s + `"`
		case '\n':
			want = `"\n"`
		}
		if got := lex.Quote(s); got != want {
			t.Errorf("%q: %q comes, not %q", s, got, want)
		}
	}
}

// Quote knows no bound: only Tokens has one.
func TestC2QuoteOfLongTexts(t *testing.T) {
	s := strings.Repeat("a\"\n", 100000)
	if got := lex.Quote(s); got != `"`+strings.Repeat(`a\"\n`, 100000)+`"` {
		t.Errorf("%d bytes come", len(got))
	}
}

func TestC2WhatIsWrittenIsRead(t *testing.T) {
	for s := range texts(4, `"`, `\`, "\n", "n", "é", " ", "#") {
		isTokens(t, lex.Quote(s), text(s, 0))
	}
}
