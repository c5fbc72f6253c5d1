package journal_test

import (
	"bytes"
	"encoding/binary"
	"fmt"
	"hash/crc32"
	"math"
	"reflect"
	"slices"
	"strings"
	"sync"
	"testing"

	"verdict/api"
	"verdict/journal"
	"verdict/repo"
	"verdict/syn"
	"verdict/trials"
	"verdict/wire"
)

func cmds(l ...api.Cmd) []api.Cmd { return l }

// says is a table with that name that says what the text of an expression says, if the text of a test is true.
func says(name, test, out string) api.Table {
	te, fault := trials.Read(test)
	x, outFault := syn.Read(out)
	if fault.Err != api.OK || outFault.Err != api.OK {
		panic(test + " | " + out)
	}
	return api.Table{
		Name:   name,
		Policy: api.PolFirst,
		Ins:    []api.Column{{Name: "a", Kind: api.TyNum}},
		Outs:   []api.Column{{Name: "o", Kind: api.TyNum}},
		Rules:  []api.Rule{{Tests: []api.Test{te}, Outs: []api.Expr{x}}},
	}
}

func deploy(session, seq int, name, out string) api.Cmd {
	return api.Cmd{Session: session, Seq: seq, Kind: api.CmdDeploy, Table: says(name, "not([1..5), 7)", out)}
}

func rollback(session, seq int, name string, to int) api.Cmd {
	return api.Cmd{Session: session, Seq: seq, Kind: api.CmdRollback, Name: name, To: to}
}

func drop(session, seq int, name string) api.Cmd {
	return api.Cmd{Session: session, Seq: seq, Kind: api.CmdDrop, Name: name}
}

// story is commands of all kinds, some of which come again, and some of which a repo refuses.
func story() []api.Cmd {
	return cmds(
		deploy(1, 1, "t", "a * 2"),
		deploy(1, 2, "t", "if a > 3 then sum([a, 1]) else -a"),
		deploy(1, 2, "t", "0"),
		rollback(2, 1, "t", 1),
		deploy(3, 1, "u", "1"),
		api.Cmd{},
		drop(2, 2, "none"),
		api.Cmd{Session: math.MaxInt, Seq: math.MinInt, Kind: 99, Name: "\xff\x00é", To: -1, Table: api.Table{Name: "no table", Rules: make([]api.Rule, 2)}},
		drop(2, 1, "t"),
		drop(2, 3, "u"),
	)
}

// named is a command whose bytes are so many.
func named(size int) api.Cmd {
	c := api.Cmd{}
	for {
		b, err := wire.Bytes(wire.Pack(c))
		if err != api.OK || len(b) > size {
			panic(size)
		}
		if len(b) == size {
			return c
		}
		c.Name += strings.Repeat("x", max(1, size-len(b)-2))
	}
}

// much is a command of which Bytes says ErrMuch.
func much() api.Cmd { return api.Cmd{Name: strings.Repeat("x", api.MaxBytes)} }

// framed is b with its size ahead of it.
func framed(b []byte) []byte {
	return append(binary.BigEndian.AppendUint32(nil, uint32(len(b))), b...)
}

// sealed is b with its sum behind it.
func sealed(b []byte) []byte {
	return binary.LittleEndian.AppendUint32(bytes.Clone(b), crc32.ChecksumIEEE(b))
}

func record(c api.Cmd) []byte {
	b, err := wire.Bytes(wire.Pack(c))
	if err != api.OK {
		panic(err)
	}
	return framed(b)
}

func records(l []api.Cmd) []byte {
	var file []byte
	for _, c := range l {
		file = append(file, record(c)...)
	}
	return file
}

// alike holds what is told against each other: a list without entries is as none.
func alike(a, b any) bool { return fmt.Sprintf("%+v", a) == fmt.Sprintf("%+v", b) }

// appends asks Append, and that nothing comes beside an error.
func appends(t *testing.T, file []byte, c api.Cmd, want []byte, wantErr api.Errno) {
	t.Helper()
	got, err := journal.Append(file, c)
	if err != wantErr || !bytes.Equal(got, want) {
		t.Errorf("%d bytes, %d comes of %d bytes, not %d, %d", len(got), err, len(file), len(want), wantErr)
	}
}

func writes(t *testing.T, l []api.Cmd, want []byte, wantErr api.Errno) {
	t.Helper()
	got, err := journal.Write(l)
	if err != wantErr || !bytes.Equal(got, want) {
		t.Errorf("%d bytes, %d comes of %d commands, not %d, %d", len(got), err, len(l), len(want), wantErr)
	}
}

// recovers asks Recover and Open of a file that is whole up to a place.
func recovers(t *testing.T, file []byte, want []api.Cmd, place int) {
	t.Helper()
	l, at, err := journal.Recover(file)
	if err != api.OK || at != place || len(l) != len(want) || !alike(l, want) {
		t.Errorf("%d commands, %d, %d comes of %d bytes, not %d, %d", len(l), at, err, len(file), len(want), place)
	}
	wantRepo, _ := repo.Run(want)
	r, whole, err := journal.Open(file)
	if err != api.OK || !alike(r, wantRepo) || !bytes.Equal(whole, file[:place]) {
		t.Errorf("%+v, %d bytes, %d is opened of %d bytes, not %+v, %d", r, len(whole), err, len(file), wantRepo, place)
	}
}

// refuses asks Recover and Open of a file of which they tell ErrMuch, and that nothing comes beside that.
func refuses(t *testing.T, file []byte) {
	t.Helper()
	if l, at, err := journal.Recover(file); err != api.ErrMuch || at != 0 || len(l) != 0 {
		t.Errorf("%d commands, %d, %d comes", len(l), at, err)
	}
	if r, whole, err := journal.Open(file); err != api.ErrMuch || !reflect.DeepEqual(r, api.Repo{}) || len(whole) != 0 {
		t.Errorf("%+v, %d bytes, %d is opened", r, len(whole), err)
	}
}

func TestN1Record(t *testing.T) {
	want := []byte{
		0, 0, 0, 37, 0, 6, 1, 97, 4, 0, 2, 0, 0, 0, 2, 0, 0, 0, 0, 0, 0, 0,
		0, 0, 3, 0, 0, 0, 0, 0, 0, 0, 0, 0, 0, 0, 0, 82, 67, 135, 34,
	}
	appends(t, nil, drop(1, 1, "a"), want, api.OK)
	appends(t, []byte{}, drop(1, 1, "a"), want, api.OK)
	appends(t, []byte{9, 8}, drop(1, 1, "a"), append([]byte{9, 8}, want...), api.OK)
	writes(t, cmds(drop(1, 1, "a")), want, api.OK)
	for _, c := range story() {
		appends(t, nil, c, record(c), api.OK)
	}
}

func TestN1Sizes(t *testing.T) {
	for _, c := range []struct {
		size int
		want []byte
	}{
		{36, []byte{0, 0, 0, 36}},
		{127, []byte{0, 0, 0, 127}},
		{128, []byte{0, 0, 0, 128}},
		{255, []byte{0, 0, 0, 255}},
		{256, []byte{0, 0, 1, 0}},
		{258, []byte{0, 0, 1, 2}},
		{65535, []byte{0, 0, 255, 255}},
		{65536, []byte{0, 1, 0, 0}},
		{66051, []byte{0, 1, 2, 3}},
		{100000, []byte{0, 1, 134, 160}},
	} {
		x := named(c.size)
		got, err := journal.Append(nil, x)
		b, _ := wire.Bytes(wire.Pack(x))
		if err != api.OK || !bytes.Equal(got, append(c.want, b...)) {
			t.Errorf("%d: %d bytes, %d comes", c.size, len(got), err)
		}
		recovers(t, got, cmds(x), c.size+4)
		recovers(t, got[:c.size+3], nil, 0)
	}
}

// What a file is, is not asked.
func TestN1AppendBehindAnything(t *testing.T) {
	whole := records(story())
	c := rollback(7, 8, "t", 9)
	for _, file := range [][]byte{
		{0}, {1, 2, 3}, {255, 255, 255, 255}, make([]byte, 1000), whole, whole[:len(whole)-1], whole[5:], append([]byte{7}, whole...),
	} {
		appends(t, file, c, slices.Concat(file, record(c)), api.OK)
	}
}

func TestN1WhatBytesSays(t *testing.T) {
	rules := func(n int) api.Cmd { return api.Cmd{Table: api.Table{Rules: make([]api.Rule, n)}} }
	nested := func(n int) api.Cmd {
		v := api.Value{}
		for range n {
			v = api.Value{List: []api.Value{v}}
		}
		return api.Cmd{Table: api.Table{Ins: []api.Column{{Order: []api.Value{v}}}}}
	}
	full := make([]byte, api.MaxJournal)
	longest := named(api.MaxBytes)
	longer := longest
	longer.Name += "x"
	for i, c := range []struct {
		c    api.Cmd
		want api.Errno
	}{
		{longest, api.OK},
		{longer, api.ErrMuch},
		{much(), api.ErrMuch},
		{api.Cmd{Name: strings.Repeat("x", 3*api.MaxJournal)}, api.ErrMuch},
		// A command without anything is eight trees, each rule three more.
		{rules((api.MaxTrees - 8) / 3), api.OK},
		{rules((api.MaxTrees-8)/3 + 1), api.ErrMuch},
		// A value in an order is six deep, and what it says one more.
		{nested(api.MaxTall - 7), api.OK},
		{nested(api.MaxTall - 6), api.ErrMuch},
	} {
		if _, err := wire.Bytes(wire.Pack(c.c)); err != c.want {
			t.Fatalf("%d: %d comes of Bytes, not %d", i, err, c.want)
		}
		if c.want == api.OK {
			appends(t, []byte{5}, c.c, append([]byte{5}, record(c.c)...), api.OK)
			appends(t, full, c.c, nil, api.ErrMany)
			continue
		}
		appends(t, nil, c.c, nil, c.want)
		writes(t, cmds(c.c), nil, c.want)
		// It is told ahead of ErrMany.
		appends(t, full, c.c, nil, c.want)
		appends(t, make([]byte, api.MaxJournal+1), c.c, nil, c.want)
	}
}

func TestN1Many(t *testing.T) {
	for _, c := range []api.Cmd{{}, deploy(1, 1, "t", "a"), named(api.MaxBytes)} {
		r := record(c)
		file := bytes.Repeat([]byte{3}, 2*api.MaxJournal)
		room := api.MaxJournal - len(r)
		for _, size := range []int{0, room - 1, room} {
			appends(t, file[:size], c, slices.Concat(file[:size], r), api.OK)
		}
		for _, size := range []int{room + 1, room + 4, api.MaxJournal - 1, api.MaxJournal, api.MaxJournal + 1, 2 * api.MaxJournal} {
			appends(t, file[:size], c, nil, api.ErrMany)
		}
	}
}

func TestN1Write(t *testing.T) {
	writes(t, nil, nil, api.OK)
	writes(t, []api.Cmd{}, nil, api.OK)
	l := story()
	var file []byte
	for i, c := range l {
		longer, err := journal.Append(file, c)
		if err != api.OK {
			t.Fatal(err)
		}
		file = longer
		writes(t, l[:i+1], file, api.OK)
	}
	if !bytes.Equal(file, records(l)) {
		t.Errorf("%v comes", file)
	}
}

// filling is commands whose records are MaxJournal bytes.
func filling() []api.Cmd {
	return append(slices.Repeat(cmds(named(api.MaxBytes-4)), api.MaxJournal/api.MaxBytes-1), named(api.MaxBytes-4-40), api.Cmd{})
}

func TestN1WriteTellsTheFirstError(t *testing.T) {
	full := filling()
	if n := len(records(full)); n != api.MaxJournal {
		t.Fatalf("%d bytes", n)
	}
	with := func(more ...api.Cmd) []api.Cmd { return append(slices.Clone(full), more...) }
	writes(t, full, records(full), api.OK)
	writes(t, with(api.Cmd{}), nil, api.ErrMany)
	writes(t, with(api.Cmd{}, much()), nil, api.ErrMany)
	writes(t, with(much()), nil, api.ErrMuch)
	writes(t, with(much(), api.Cmd{}), nil, api.ErrMuch)
	writes(t, append(cmds(much()), full...), nil, api.ErrMuch)
	// One byte more than there may be.
	longer := slices.Clone(full)
	longer[len(full)-1].Name = "x"
	writes(t, longer, nil, api.ErrMany)
	writes(t, append(longer, much()), nil, api.ErrMany)
	writes(t, slices.Repeat(cmds(api.Cmd{}), api.MaxJournal/40), bytes.Repeat(record(api.Cmd{}), api.MaxJournal/40), api.OK)
	writes(t, slices.Repeat(cmds(api.Cmd{}), api.MaxJournal/40+1), nil, api.ErrMany)
	writes(t, slices.Repeat(cmds(api.Cmd{}), 3000000), nil, api.ErrMany)
}

// Wherever a file is torn off, just what is whole comes back.
func TestN2Torn(t *testing.T) {
	l := story()
	file, err := journal.Write(l)
	if err != api.OK {
		t.Fatal(err)
	}
	at, whole := 0, 0
	for size := range len(file) + 1 {
		if whole < len(l) && size == at+len(record(l[whole])) {
			at, whole = size, whole+1
		}
		// What was torn off stands in the spare room of the first of these.
		recovers(t, file[:size], l[:whole], at)
		recovers(t, slices.Clip(bytes.Clone(file[:size])), l[:whole], at)
	}
	if at != len(file) || whole != len(l) {
		t.Errorf("%d bytes, %d commands in the end", at, whole)
	}
}

// Whichever bit is another one, just the records ahead of it come back.
func TestN2Spoilt(t *testing.T) {
	l := story()
	file, at := records(l), 0
	for i, c := range l {
		end := at + len(record(c))
		for place := at; place < end; place++ {
			for bit := range 8 {
				spoilt := bytes.Clone(file)
				spoilt[place] ^= 1 << bit
				got, size, err := journal.Recover(spoilt)
				if err != api.OK || size != at || len(got) != i || !alike(got, l[:i]) {
					t.Fatalf("byte %d, bit %d: %d commands, %d, %d comes, not %d, %d", place, bit, len(got), size, err, i, at)
				}
			}
		}
		recovers(t, append(bytes.Clone(file[:at]), file[min(end, at+7):]...), l[:i], at)
		at = end
	}
}

func TestN2Places(t *testing.T) {
	a, b := story()[0], story()[3]
	bare := append([]byte{0, 0, 0, 4}, make([]byte, 12)...)
	bare = append(bare, append([]byte{0, 0, 0, 3}, make([]byte, 12)...)...)
	if !bytes.Equal(framed(sealed(bare)), record(api.Cmd{})) {
		t.Fatal("these are not the bytes of a command without anything")
	}
	changed := func(at int, by ...byte) []byte {
		return framed(sealed(slices.Replace(bytes.Clone(bare), at, at+1, by...)))
	}
	headed := func(head uint32, rest []byte) []byte {
		return append(binary.BigEndian.AppendUint32(nil, head), rest...)
	}
	body := record(b)[4:]
	// As many bytes of a tree as Parse does not read any more, with their sum.
	long := api.Tree{Text: strings.Repeat("x", api.MaxBytes-9)}
	longest, err := wire.Bytes(api.Tree{Text: long.Text[:api.MaxBytes-10]})
	if err != api.OK || len(longest) != api.MaxBytes {
		t.Fatal(len(longest), err)
	}
	tooLong := sealed(slices.Concat([]byte{0, 0}, binary.AppendUvarint(nil, api.MaxBytes-9), []byte(long.Text), []byte{0}))
	for i, bad := range [][]byte{
		{},
		{0},
		{0, 0, 0},
		{0, 0, 0, 0},
		{0, 0, 0, 1, 0},
		{0, 0, 0, 3, 0, 0, 0},
		{0, 0, 0, 4, 0, 0, 0, 0},
		{255, 255, 255, 255},
		headed(math.MaxUint32, body),
		headed(1<<31, body),
		headed(uint32(len(body))-1, body),
		headed(uint32(len(body))+1, append(bytes.Clone(body), 0)),
		headed(uint32(len(body))<<24, body),
		headed(uint32(len(body))<<8, body),
		binary.LittleEndian.AppendUint32(nil, uint32(len(body))),
		body,
		// Bytes that Parse does not read.
		framed(append(bytes.Clone(bare), 0, 0, 0, 0)),
		framed(bare),
		framed(sealed(nil)),
		framed(sealed(bare[:len(bare)-1])),
		framed(sealed(append(bytes.Clone(bare), 0))),
		framed(sealed(append(bytes.Clone(bare), bare...))),
		changed(1, 128, 0),
		changed(2, 128, 0),
		changed(2, 1),
		changed(len(bare)-1, 1),
		framed(tooLong),
		// Trees that Unpack does not read.
		framed(sealed([]byte{0, 0, 0, 0})),
		framed(longest),
		changed(0, 1),
		changed(3, 3),
		changed(4, 1),
		changed(6, 1, 65),
		changed(len(bare)-3, 2),
		changed(len(bare)-1, 1, 0, 0, 0, 0),
	} {
		for _, ahead := range [][]api.Cmd{nil, cmds(a), cmds(b, a, api.Cmd{})} {
			file := records(ahead)
			recovers(t, append(bytes.Clone(file), bad...), ahead, len(file))
			if i == 0 {
				continue
			}
			// What follows is whole, but is not come to.
			if n := len(bad); n >= 4 && uint64(binary.BigEndian.Uint32(bad))+4 <= uint64(n) {
				recovers(t, slices.Concat(file, bad, record(a)), ahead, len(file))
			}
		}
	}
	for i, c := range []struct {
		file []byte
		want api.Cmd
	}{
		{changed(1, 1), api.Cmd{Kind: -1}},
		{changed(1, 128, 1), api.Cmd{Kind: 64}},
		{changed(2, 1, 255), api.Cmd{Name: "\xff"}},
		{changed(5, 3), api.Cmd{Session: -2}},
	} {
		l, at, err := journal.Recover(c.file)
		if err != api.OK || at != len(c.file) || !alike(l, cmds(c.want)) {
			t.Errorf("%d: %+v, %d, %d comes", i, l, at, err)
		}
	}
}

func TestN2Much(t *testing.T) {
	recovers(t, nil, nil, 0)
	recovers(t, []byte{}, nil, 0)
	recovers(t, make([]byte, api.MaxJournal), nil, 0)
	refuses(t, make([]byte, api.MaxJournal+1))
	refuses(t, make([]byte, 5*api.MaxJournal))
	l := filling()
	full := records(l)
	recovers(t, full, l, api.MaxJournal)
	recovers(t, full[:api.MaxJournal-1], l[:len(l)-1], api.MaxJournal-40)
	// That it begins with what is whole does not help.
	refuses(t, append(bytes.Clone(full), 0))
	refuses(t, append(bytes.Clone(full), record(api.Cmd{})...))
	torn := records(story())
	n := len(torn)
	recovers(t, append(bytes.Clone(torn), make([]byte, api.MaxJournal-n)...), story(), n)
	refuses(t, append(bytes.Clone(torn), make([]byte, api.MaxJournal-n+1)...))
}

// As many commands as a journal has room for.
func TestN2ManyCommands(t *testing.T) {
	l := slices.Repeat(cmds(api.Cmd{}), api.MaxJournal/40)
	file, err := journal.Write(l)
	if err != api.OK || len(file) != api.MaxJournal {
		t.Fatal(len(file), err)
	}
	recovers(t, file, l, api.MaxJournal)
	l = nil
	for i, size := 0, 0; ; i++ {
		c := deploy(i%5+1, i+1, string(rune('a'+i%6)), "1")
		size += len(record(c))
		if size > api.MaxJournal {
			break
		}
		l = append(l, c)
	}
	file, err = journal.Write(l)
	if err != api.OK {
		t.Fatal(err)
	}
	recovers(t, file, l, len(file))
	r, _, _ := journal.Open(file)
	if r.Applied != len(l) || len(r.Entries) != api.MaxEntries {
		t.Errorf("%d of %d commands are done", r.Applied, len(l))
	}
}

// Who opens a torn file and goes on with what Open tells loses nothing more; who goes on with the torn file itself does.
func TestN2GoingOn(t *testing.T) {
	l := story()
	file := records(l)
	torn := file[:len(file)-1]
	last := len(l) - 1
	_, whole, err := journal.Open(torn)
	if err != api.OK {
		t.Fatal(err)
	}
	longer, err := journal.Append(whole, l[last])
	if err != api.OK || !bytes.Equal(longer, file) {
		t.Errorf("%d bytes, %d comes", len(longer), err)
	}
	recovers(t, longer, l, len(file))
	lost, err := journal.Append(torn, l[last])
	if err != api.OK {
		t.Fatal(err)
	}
	recovers(t, lost, l[:last], len(whole))
}

// Commands that come again are done once, in a journal too.
func TestN2OpenDoesOnce(t *testing.T) {
	file, _ := journal.Write(cmds(deploy(1, 1, "t", "7"), deploy(1, 1, "t", "7"), deploy(1, 2, "t", "8"), deploy(1, 1, "t", "7"), rollback(2, 1, "t", 1)))
	r, whole, err := journal.Open(append(file, 0, 0))
	if err != api.OK || r.Applied != 3 || len(r.Entries) != 1 || r.Entries[0].Now != 1 || r.Entries[0].Next != 3 || !bytes.Equal(whole, file) {
		t.Errorf("%+v, %d comes", r, err)
	}
	nine := api.Value{Kind: api.VNum, Num: api.Dec{Coef: 9}}
	if v, err := repo.Decide(r, "t", 0, []api.Value{nine}); err != api.OK || v.Num.Coef != 7 {
		t.Errorf("%+v, %d comes", v, err)
	}
}

// spare is b with spare room behind it, in which something stands.
func spare(b []byte) []byte {
	return append(bytes.Clone(b), bytes.Repeat([]byte{77}, 500)...)[:len(b)]
}

// Neither a file nor the spare room behind it is changed, and so it is with commands.
func TestN1N2OnlyRead(t *testing.T) {
	l := story()
	for _, file := range [][]byte{nil, {1, 2, 3}, records(l), records(l)[:50]} {
		given := spare(file)
		before := bytes.Clone(given[:cap(given)])
		for _, c := range append(l, much()) {
			journal.Append(given, c)
		}
		journal.Recover(given)
		journal.Open(given)
		if !bytes.Equal(given[:cap(given)], before) {
			t.Errorf("%v is left, not %v", given[:cap(given)], before)
		}
		recovered, at, _ := journal.Recover(given)
		if want, wantAt, _ := journal.Recover(file); !alike(recovered, want) || at != wantAt {
			t.Errorf("%+v, %d comes of what has spare room", recovered, at)
		}
	}
	longer := append(story(), much(), much())
	want := records(story())
	writes(t, longer[:len(l)], want, api.OK)
	if !reflect.DeepEqual(longer, append(story(), much(), much())) || !reflect.DeepEqual(l, story()) {
		t.Error("the commands were changed")
	}
	c := api.Cmd{Table: api.Table{Rules: make([]api.Rule, 1, 3), Ins: make([]api.Column, 0, 2)}}
	appends(t, nil, c, record(api.Cmd{Table: api.Table{Rules: make([]api.Rule, 1)}}), api.OK)
}

// litter writes over all lists of x, and the room behind them.
func litter(x reflect.Value) {
	switch x.Kind() {
	case reflect.Struct:
		for i := range x.NumField() {
			litter(x.Field(i))
		}
	case reflect.Slice:
		all := x.Slice3(0, x.Cap(), x.Cap())
		for i := range all.Len() {
			litter(all.Index(i))
			all.Index(i).SetZero()
		}
	}
}

// places tells how often each place of a list, or of the room behind it, is there.
func places(x reflect.Value, times map[uintptr]int) {
	switch x.Kind() {
	case reflect.Struct:
		for i := range x.NumField() {
			places(x.Field(i), times)
		}
	case reflect.Slice:
		for i := range x.Cap() {
			times[x.Slice(0, x.Cap()).Index(i).Addr().Pointer()]++
		}
		for i := range x.Len() {
			places(x.Index(i), times)
		}
	}
}

// What is answered shares nothing with what was handed in, and no two of its lists share anything.
func TestN1N2AnswersAreNewMemory(t *testing.T) {
	type opened struct {
		Repo api.Repo
		File []byte
	}
	l, file := story(), spare(records(story()))
	calls := []func() any{
		func() any { b, _ := journal.Append(file, l[1]); return &b },
		func() any { b, _ := journal.Append(nil, l[1]); return &b },
		func() any { b, _ := journal.Write(l); return &b },
		func() any { got, _, _ := journal.Recover(file); return &got },
		func() any { r, b, _ := journal.Open(file); return &opened{r, b} },
		func() any { r, b, _ := journal.Open(file[:70]); return &opened{r, b} },
	}
	told := func(x any) string { return fmt.Sprintf("%+v", reflect.ValueOf(x).Elem().Interface()) }
	var wants []string
	var answers []any
	for i, call := range calls {
		x, want := call(), told(call())
		litter(reflect.ValueOf(x).Elem())
		answers, wants = append(answers, call()), append(wants, want)
		if got := told(answers[i]); got != want {
			t.Errorf("%d: %s comes, not %s", i, got, want)
		}
		times := map[uintptr]int{}
		places(reflect.ValueOf(answers[i]).Elem(), times)
		places(reflect.ValueOf(&file).Elem(), times)
		places(reflect.ValueOf(&l).Elem(), times)
		for at, n := range times {
			if n > 1 {
				t.Errorf("%d: %x is there %d times", i, at, n)
			}
		}
	}
	if !alike(l, story()) || !bytes.Equal(file, records(story())) {
		t.Error("what was handed in was changed")
	}
	litter(reflect.ValueOf(&l).Elem())
	litter(reflect.ValueOf(&file).Elem())
	for i, x := range answers {
		if got := told(x); got != wants[i] {
			t.Errorf("%d: %s is left, not %s", i, got, wants[i])
		}
	}
}

// Commands that hold themselves, or whose lists are the same list many times, have more trees than can be made: Bytes would say ErrMuch of them.
func TestN1Endless(t *testing.T) {
	var l []api.Cmd
	for _, many := range []int{1, 2, 5000} {
		tests, exprs, values := make([]api.Test, many), make([]api.Expr, many), make([]api.Value, many)
		for i := range many {
			tests[i].Kids, exprs[i].Kids, values[i].List = tests, exprs, values
		}
		l = append(l,
			api.Cmd{Table: api.Table{Rules: []api.Rule{{Tests: tests}}}},
			api.Cmd{Table: api.Table{Rules: []api.Rule{{Outs: exprs}}}},
			api.Cmd{Table: api.Table{Outs: []api.Column{{Order: values}}}},
		)
	}
	v := api.Value{}
	for range 20 {
		v = api.Value{Kind: api.VList, List: slices.Repeat([]api.Value{v}, 8192)}
	}
	l = append(l, api.Cmd{Table: api.Table{Ins: []api.Column{{Order: []api.Value{v}}}}})
	for range 20 {
		for _, c := range l {
			appends(t, []byte{1}, c, nil, api.ErrMuch)
			writes(t, cmds(api.Cmd{}, c), nil, api.ErrMuch)
		}
	}
}

func TestN1N2AtOnce(t *testing.T) {
	l := story()
	file := spare(records(l))
	var wait sync.WaitGroup
	for range 8 {
		wait.Go(func() {
			for range 20 {
				appends(t, file, l[0], slices.Concat(file, record(l[0])), api.OK)
				writes(t, l, file, api.OK)
				recovers(t, file, l, len(file))
			}
		})
	}
	wait.Wait()
}
