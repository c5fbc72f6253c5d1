package eval

import (
	"strconv"
	"strings"
	"unicode"

	"verdict/api"
	"verdict/dec"
	"verdict/logic"
)

// function has of which kind each of its arguments must be, and what it makes of such ones; of others it makes null.
type function struct {
	takes []int
	makes func(args []api.Value) api.Value
}

// anything is no kind that an argument must be of.
const anything = 0

// of tells what comes of args, as many as f takes.
func (f function) of(args []api.Value) api.Value {
	for i, kind := range f.takes {
		if kind != anything && args[i].Kind != kind {
			return null()
		}
	}
	return f.makes(args)
}

func functions() map[string]function {
	const (
		num  = api.VNum
		text = api.VText
		list = api.VList
	)
	return map[string]function{
		"not":       {[]int{anything}, ofNot},
		"floor":     {[]int{num}, ofNumber(dec.Floor)},
		"ceiling":   {[]int{num}, ofNumber(dec.Ceil)},
		"abs":       {[]int{num}, ofNumber(unsigned)},
		"round":     {[]int{num, num}, ofRound},
		"min":       {[]int{list}, ofMin},
		"max":       {[]int{list}, ofMax},
		"sum":       {[]int{list}, ofSum},
		"count":     {[]int{list}, ofCount},
		"item":      {[]int{list, num}, ofItem},
		"concat":    {[]int{list, list}, ofConcat},
		"reverse":   {[]int{list}, ofReverse},
		"distinct":  {[]int{list}, ofDistinct},
		"sort":      {[]int{list}, ofSort},
		"length":    {[]int{text}, ofLength},
		"upper":     {[]int{text}, ofRunes(unicode.ToUpper)},
		"lower":     {[]int{text}, ofRunes(unicode.ToLower)},
		"contains":  {[]int{text, text}, ofTexts(strings.Contains)},
		"starts":    {[]int{text, text}, ofTexts(strings.HasPrefix)},
		"ends":      {[]int{text, text}, ofTexts(strings.HasSuffix)},
		"substring": {[]int{text, num, num}, ofSubstring},
		"between":   {[]int{anything, anything, anything}, ofBetween},
	}
}

func ofNot(args []api.Value) api.Value {
	return logic.Not(args[0])
}

func ofBetween(args []api.Value) api.Value {
	notBelow := logic.Not(logic.Less(args[0], args[1]))
	notAbove := logic.Not(logic.Less(args[2], args[0]))
	return logic.And(notBelow, notAbove)
}

func ofNumber(op func(api.Dec) (api.Dec, api.Errno)) func([]api.Value) api.Value {
	return func(args []api.Value) api.Value {
		return number(op(args[0].Num))
	}
}

func unsigned(d api.Dec) (api.Dec, api.Errno) {
	if d.Coef < 0 {
		return dec.Neg(d)
	}
	return d, api.OK
}

func ofRound(args []api.Value) api.Value {
	places, ok := whole(args[1])
	if !ok {
		return null()
	}
	return number(dec.Round(args[0].Num, places))
}

// mostWhole is how great a number may be that tells a place, or how many.
const mostWhole = 10000

// whole is the number v as one that tells a place, or how many, if it may.
func whole(v api.Value) (int, bool) {
	digits, wrong := dec.Print(v.Num)
	n, err := strconv.Atoi(digits)
	return n, wrong == api.OK && err == nil && -mostWhole <= n && n <= mostWhole
}

// counted is the number n, as numbers are written.
func counted(n int) api.Value {
	return number(dec.Parse(strconv.Itoa(n)))
}

// placeOf is the place that v tells among n, as one from 0 on; from the end on there are no more than n, but ahead it may lie behind the last one.
func placeOf(v api.Value, n int) (int, bool) {
	place, ok := whole(v)
	if place < 0 {
		place += n + 1
	}
	return place - 1, ok && place >= 1
}
