package wire_test

import (
	"bytes"
	"encoding/binary"
	"hash/crc32"
	"math"
	"math/rand"
	"reflect"
	"testing"

	"verdict/api"
	"verdict/wire"
)

// The chapter's words once more, by another way: the library's numbers and sums, trees told from types, and, of what is read, a guess that is written again and held against what was there.

// wrongs tells what is wrong, from the list of all trees and how deep each one is.
func wrongs(t api.Tree) api.Errno {
	type at struct {
		t    api.Tree
		deep int
	}
	open := []at{{t, 1}}
	for seen := 1; len(open) > 0; seen++ {
		x := open[len(open)-1]
		open = open[:len(open)-1]
		if seen > 5000 || x.deep > 40 {
			return api.ErrMuch
		}
		if x.t.Tag < 0 || x.t.Tag > 255 {
			return api.ErrRange
		}
		for i := len(x.t.Kids) - 1; i >= 0; i-- {
			open = append(open, at{x.t.Kids[i], x.deep + 1})
		}
	}
	return api.OK
}

// written is a tree's bytes without a sum, with which nothing is wrong.
func written(t api.Tree) []byte {
	b := binary.AppendVarint([]byte{byte(t.Tag)}, t.N)
	b = append(binary.AppendUvarint(b, uint64(len(t.Text))), t.Text...)
	b = binary.AppendUvarint(b, uint64(len(t.Kids)))
	for _, kid := range t.Kids {
		b = append(b, written(kid)...)
	}
	return b
}

func withSum(b []byte) []byte {
	return binary.LittleEndian.AppendUint32(b, crc32.ChecksumIEEE(b))
}

func bytesOf(t api.Tree) ([]byte, api.Errno) {
	if err := wrongs(t); err != api.OK {
		return nil, err
	}
	b := withSum(written(t))
	if len(b) > 100000 {
		return nil, api.ErrMuch
	}
	return b, api.OK
}

// guess reads a tree without asking whether it is right, and tells what is left; nothing is, where it can't go on.
func guess(b []byte) (t api.Tree, left []byte) {
	if len(b) == 0 {
		return t, nil
	}
	t.Tag, b = int(b[0]), b[1:]
	signed, size := binary.Varint(b)
	t.N, b = signed, b[max(size, 0):]
	long, size := binary.Uvarint(b)
	b = b[max(size, 0):]
	long = min(long, uint64(len(b)))
	t.Text, b = string(b[:long]), b[long:]
	many, size := binary.Uvarint(b)
	b = b[max(size, 0):]
	for many = min(many, 6000); many > 0 && len(b) > 0; many-- {
		var kid api.Tree
		kid, b = guess(b)
		t.Kids = append(t.Kids, kid)
	}
	return t, b
}

func parsed(b []byte) (api.Tree, api.Errno) {
	if len(b) > 100000 {
		return api.Tree{}, api.ErrMuch
	}
	if len(b) < 4 {
		return api.Tree{}, api.ErrForm
	}
	if !bytes.Equal(withSum(bytes.Clone(b[:len(b)-4])), b) {
		return api.Tree{}, api.ErrFit
	}
	t, _ := guess(b[:len(b)-4])
	if again, err := bytesOf(t); err != api.OK || !bytes.Equal(again, b) {
		return api.Tree{}, api.ErrForm
	}
	return t, api.OK
}

// packed is the tree of anything of which the chapter says how it is packed.
func packed(x any) api.Tree {
	switch x := x.(type) {
	case int:
		return api.Tree{N: int64(x)}
	case bool:
		return api.Tree{N: map[bool]int64{true: 1}[x]}
	case api.Cmd:
		return api.Tree{N: int64(x.Kind), Text: x.Name, Kids: packedAll(x.Session, x.Seq, x.To, x.Table)}
	case api.Table:
		return api.Tree{N: int64(x.Policy), Text: x.Name, Kids: packedAll(x.Ins, x.Outs, x.Rules)}
	case api.Column:
		return api.Tree{N: int64(x.Kind), Text: x.Name, Kids: packedAll(x.Order)}
	case api.Rule:
		return api.Tree{Kids: packedAll(x.Tests, x.Outs)}
	case api.Test:
		return api.Tree{N: int64(x.Kind), Kids: packedAll(x.A, x.B, x.OpenA, x.OpenB, x.Kids)}
	case api.Expr:
		return api.Tree{N: int64(x.Kind), Text: x.Name, Kids: packedAll(x.Val, x.Kids)}
	case api.Value:
		tag := x.Kind % 256
		if tag < 0 {
			tag += 256
		}
		return api.Tree{Tag: tag, N: x.Num.Coef, Text: x.Text, Kids: append(packedAll(x.Num.Exp, x.Yes, x.Kind), packed(x.List).Kids...)}
	}
	t, l := api.Tree{}, reflect.ValueOf(x)
	for i := range l.Len() {
		t.Kids = append(t.Kids, packed(l.Index(i).Interface()))
	}
	return t
}

func packedAll(l ...any) []api.Tree {
	var trees []api.Tree
	for _, x := range l {
		trees = append(trees, packed(x))
	}
	return trees
}

// fill puts into x what t says, without asking whether it is right.
func fill(x reflect.Value, t api.Tree) {
	kid := func(i int) api.Tree {
		if i < len(t.Kids) {
			return t.Kids[i]
		}
		return api.Tree{}
	}
	parts := map[string][]string{
		"Cmd":    {"Session", "Seq", "To", "Table"},
		"Table":  {"Ins", "Outs", "Rules"},
		"Column": {"Order"},
		"Rule":   {"Tests", "Outs"},
		"Test":   {"A", "B", "OpenA", "OpenB", "Kids"},
		"Expr":   {"Val", "Kids"},
		"Value":  {"", "Yes", "Kind"},
	}[x.Type().Name()]
	switch x.Kind() {
	case reflect.Int:
		x.SetInt(t.N)
		return
	case reflect.Bool:
		x.SetBool(t.N == 1)
		return
	case reflect.Slice:
		for i := range t.Kids {
			x.Set(reflect.Append(x, reflect.Zero(x.Type().Elem())))
			fill(x.Index(i), t.Kids[i])
		}
		return
	}
	for _, name := range []string{"Kind", "Policy"} {
		if f := x.FieldByName(name); f.IsValid() {
			f.SetInt(t.N)
		}
	}
	for _, name := range []string{"Name", "Text"} {
		if f := x.FieldByName(name); f.IsValid() {
			f.SetString(t.Text)
		}
	}
	for i, name := range parts {
		if name != "" {
			fill(x.FieldByName(name), kid(i))
		}
	}
	if x.Type().Name() == "Value" {
		x.FieldByName("Num").Set(reflect.ValueOf(api.Dec{Coef: t.N, Exp: int(kid(0).N)}))
		fill(x.FieldByName("List"), api.Tree{Kids: t.Kids[min(3, len(t.Kids)):]})
	}
}

// unpacked guesses the command, and holds its tree against t.
func unpacked(t api.Tree) (api.Cmd, bool) {
	c := api.Cmd{}
	fill(reflect.ValueOf(&c).Elem(), t)
	if !alike(packed(c), t) {
		return api.Cmd{}, false
	}
	return c, true
}

type maker struct{ *rand.Rand }

func (m maker) number() int64 {
	switch m.Intn(4) {
	case 0:
		return int64(m.Intn(3))
	case 1:
		return int64(m.Intn(600) - 300)
	case 2:
		return []int64{math.MinInt64, math.MaxInt64, 1 << 62, -1 << 62, 255, 256, -256}[m.Intn(7)]
	}
	return int64(m.Uint64()) >> m.Intn(64)
}

func (m maker) text() string {
	b := make([]byte, []int{0, 0, 1, 2, 3, 130}[m.Intn(6)])
	m.Read(b)
	return string(b)
}

// any fills x, with lists that grow shorter the deeper they are.
func (m maker) any(x reflect.Value, most int) {
	switch x.Kind() {
	case reflect.Int, reflect.Int64:
		x.SetInt(m.number())
	case reflect.Bool:
		x.SetBool(m.Intn(2) == 1)
	case reflect.String:
		x.SetString(m.text())
	case reflect.Struct:
		for i := range x.NumField() {
			m.any(x.Field(i), most)
		}
	case reflect.Slice:
		size := m.Intn(most + 1)
		x.Set(reflect.MakeSlice(x.Type(), size, size))
		for i := range size {
			m.any(x.Index(i), most-1)
		}
	}
}

func (m maker) command() api.Cmd {
	c := api.Cmd{}
	m.any(reflect.ValueOf(&c).Elem(), m.Intn(4))
	return c
}

func (m maker) tree() api.Tree {
	t := api.Tree{}
	m.any(reflect.ValueOf(&t).Elem(), m.Intn(5))
	if m.Intn(3) > 0 {
		for _, x := range within(&t) {
			x.Tag &= 255
		}
	}
	return t
}

// apart is t with lists of its own.
func apart(t api.Tree) api.Tree {
	t.Kids = append([]api.Tree{}, t.Kids...)
	for i, kid := range t.Kids {
		t.Kids[i] = apart(kid)
	}
	return t
}

// spoil changes one tree of t a little, or not at all.
func (m maker) spoil(t *api.Tree) {
	all := within(t)
	x := all[m.Intn(len(all))]
	switch m.Intn(7) {
	case 0:
		x.Tag += m.Intn(3) - 1
	case 1:
		x.N = m.number()
	case 2:
		x.Text = m.text()
	case 3:
		x.Kids = append(x.Kids, apart(*all[m.Intn(len(all))]))
	case 4:
		x.Kids = x.Kids[:max(0, len(x.Kids)-1)]
	case 5:
		*x = apart(*all[m.Intn(len(all))])
	}
}

func TestM1M2AsTheChapterSays(t *testing.T) {
	m := maker{rand.New(rand.NewSource(13))}
	for range 3000 {
		x := m.tree()
		if got, want := wire.Wrong(x), wrongs(x); got != want {
			t.Fatalf("%+v: %d comes, not %d", x, got, want)
		}
		got, err := wire.Bytes(x)
		if want, wantErr := bytesOf(x); err != wantErr || !bytes.Equal(got, want) {
			t.Fatalf("%+v: %v, %d comes, not %v, %d", x, got, err, want, wantErr)
		}
		if err == api.OK {
			if back, err := wire.Parse(got); err != api.OK || !alike(back, x) {
				t.Fatalf("%+v: %+v, %d is read", x, back, err)
			}
		}
	}
}

// tall is trees in trees, about as many and as deep as there may be.
func (m maker) tall() api.Tree {
	t := api.Tree{}
	for range 36 + m.Intn(6) {
		t.Tag = m.Intn(256) - 256*(m.Intn(200)/199)
		t = api.Tree{Kids: append(make([]api.Tree, m.Intn(260)), t)}
		if m.Intn(2) == 0 {
			t.Kids[0], t.Kids[len(t.Kids)-1] = t.Kids[len(t.Kids)-1], t.Kids[0]
		}
	}
	return t
}

func TestM1M3Tall(t *testing.T) {
	m := maker{rand.New(rand.NewSource(14))}
	seen := map[api.Errno]int{}
	for range 300 {
		x := m.tall()
		err := wire.Wrong(x)
		seen[err]++
		if want := wrongs(x); err != want {
			t.Fatalf("%d comes, not %d", err, want)
		}
		for _, x := range within(&x) {
			x.Tag &= 255
		}
		b := withSum(written(x))
		got, err := wire.Parse(b)
		if want, wantErr := parsed(b); err != wantErr || !reflect.DeepEqual(got, want) {
			t.Fatalf("%d comes, not %d", err, wantErr)
		}
	}
	if seen[api.OK] < 20 || seen[api.ErrMuch] < 20 || seen[api.ErrRange] < 1 {
		t.Errorf("%v come", seen)
	}
}

func TestM1SumAsTheLibrarySays(t *testing.T) {
	m := maker{rand.New(rand.NewSource(15))}
	for size := range 600 {
		b := make([]byte, size)
		m.Read(b)
		if got, want := wire.Sum(b), crc32.ChecksumIEEE(b); got != want {
			t.Fatalf("%v: %x comes, not %x", b, got, want)
		}
	}
}

// All short rows of some bytes: just those are read that are written.
func TestM3AllShortRows(t *testing.T) {
	some := []byte{0, 1, 2, 3, 127, 128, 129}
	right := 0
	var all func(b []byte, more int)
	all = func(b []byte, more int) {
		whole := withSum(bytes.Clone(b))
		got, err := wire.Parse(whole)
		if want, wantErr := parsed(whole); err != wantErr || !reflect.DeepEqual(got, want) {
			t.Fatalf("%v: %+v, %d comes, not %+v, %d", b, got, err, want, wantErr)
		}
		if err == api.OK {
			right++
		}
		for _, x := range some {
			if more > 0 {
				all(append(bytes.Clone(b), x), more-1)
			}
		}
	}
	all(nil, 6)
	if right < 500 {
		t.Errorf("%d rows are read", right)
	}
}

func TestM3SpoiltBytes(t *testing.T) {
	m := maker{rand.New(rand.NewSource(16))}
	seen := map[api.Errno]int{}
	for range 20000 {
		b := written(m.tree())
		for range m.Intn(3) {
			i := m.Intn(len(b))
			switch m.Intn(4) {
			case 0:
				b[i] = byte(m.Intn(256))
			case 1:
				b[i] = byte(m.Intn(4))
			case 2:
				b = append(b[:i:i], b[i+1:]...)
				b = append(b, 0)
			case 3:
				b = append(b[:i:i], append([]byte{byte(m.Intn(256))}, b[i:]...)...)
			}
		}
		b = withSum(b)
		if m.Intn(10) == 0 {
			b[m.Intn(len(b))]++
		}
		got, err := wire.Parse(b)
		seen[err]++
		if want, wantErr := parsed(b); err != wantErr || !reflect.DeepEqual(got, want) {
			t.Fatalf("%v: %+v, %d comes, not %+v, %d", b, got, err, want, wantErr)
		}
	}
	if seen[api.OK] < 1000 || seen[api.ErrForm] < 1000 || seen[api.ErrFit] < 1000 {
		t.Errorf("%v come", seen)
	}
}

func TestM4AsTheChapterSays(t *testing.T) {
	m := maker{rand.New(rand.NewSource(17))}
	seen := map[api.Errno]int{}
	for range 4000 {
		c := m.command()
		p := wire.Pack(c)
		if want := packed(c); !alike(p, want) {
			t.Fatalf("%+v: %+v comes, not %+v", c, p, want)
		}
		if back, err := wire.Unpack(p); err != api.OK || !alike(back, c) {
			t.Fatalf("%+v: %+v, %d is unpacked", c, back, err)
		}
		b, err := wire.Written(c)
		if want, wantErr := bytesOf(p); err != wantErr || !bytes.Equal(b, want) {
			t.Fatalf("%+v: %v, %d is written, not %v, %d", c, b, err, want, wantErr)
		}
		for range m.Intn(3) {
			m.spoil(&p)
		}
		got, err := wire.Unpack(p)
		seen[err]++
		want, ok := unpacked(p)
		if ok != (err == api.OK) || !ok && err != api.ErrForm || !alike(got, want) {
			t.Fatalf("%+v: %+v, %d comes, not %+v, %t", p, got, err, want, ok)
		}
	}
	if seen[api.OK] < 500 || seen[api.ErrForm] < 500 {
		t.Errorf("%v come", seen)
	}
}
