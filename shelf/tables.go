package shelf

// The tables, as doc/19-shelf.md writes them, each line with a line feed behind it.
const (
	clamp = `table clamp first
in x number
out y number
rule < 0 | 0
rule > 100 | 100
rule - | x
`

	discount = `table discount unique
in amount number, member boolean
out rate number
rule < 100 | false | 0
rule < 100 | true | 5
rule [100..1000) | false | 5
rule [100..1000) | true | 10
rule >= 1000 | - | 15
`

	dish = `table dish unique
in season text, guests number
out meal text
rule "winter" | <= 8 | "roast"
rule "winter" | > 8 | "stew"
rule "summer" | - | "salad"
rule not("winter", "summer") | <= 4 | "steak"
rule not("winter", "summer") | > 4 | "pasta"
`

	fee = `table fee max
in days number
out due number
rule > 0 | days * 2
rule > 10 | 25
rule > 30 | days + 20
rule <= 0 | 0
`

	fizz = `table fizz first
in n number
out word text
rule - | if n = floor(n / 15) * 15 then "fizzbuzz" else if n = floor(n / 3) * 3 then "fizz" else if n = floor(n / 5) * 5 then "buzz" else null
`

	grade = `table grade first
in points number
out mark text
rule >= 90 | "A"
rule >= 80 | "B"
rule >= 70 | "C"
rule - | "F"
`

	hints = `table hints count
in temp number, rain boolean
out n number
rule < 0 | - | 1
rule < 10 | true | 1
rule - | true | 1
rule > 30 | - | 1
`

	initials = `table initials first
in first text, last text
out letters text
rule not("") | not("") | upper(substring(first, 1, 1)) + upper(substring(last, 1, 1))
rule - | - | "?"
`

	middle = `table middle first
in a number, b number, c number
out m number
rule - | - | - | item(sort([a, b, c]), 2)
`

	month = `table month unique
in month number, leap boolean
out days number
rule 1, 3, 5, 7, 8, 10, 12 | - | 31
rule 4, 6, 9, 11 | - | 30
rule 2 | true | 29
rule 2 | false | 28
`

	reasons = `table reasons rule
in age number, debt number
out why text
rule < 18 | - | "too young"
rule > 80 | - | "too old"
rule - | > 1000 | "too much debt"
`

	risk = `table risk priority
in age number, score number
out level text ("high", "medium", "low")
rule - | < 300 | "high"
rule < 25 | < 600 | "medium"
rule [25..65] | - | "low"
rule > 65 | < 600 | "medium"
rule - | >= 600 | "low"
rule < 25 | - | "medium"
`

	shipping = `table shipping unique
in kilos number, far boolean
out price number
rule <= 1 | false | 4
rule <= 1 | true | 7
rule > 1 | false | 4 + (kilos - 1) * 1.5
rule > 1 | true | 7 + (kilos - 1) * 2.5
`

	sign = `table sign unique
in x number
out s text, n number
rule < 0 | "negative" | -1
rule 0 | "zero" | 0
rule > 0 | "positive" | 1
`

	tax = `table tax sum
in income number
out part number
rule - | 0
rule > 10000 | (income - 10000) * 0.1
rule > 50000 | (income - 50000) * 0.2
rule > 100000 | (income - 100000) * 0.1
`

	tickets = `table tickets min
in age number, student boolean, group number
out price number
rule - | - | - | 20
rule < 6 | - | - | 0
rule [6..18) | - | - | 10
rule - | true | - | 12
rule >= 65 | - | - | 14
rule - | - | >= 10 | 15
`

	triangle = `table triangle first
in a number, b number, c number
out kind text
rule - | - | - | if a + b <= c or b + c <= a or a + c <= b then "none" else if a = b and b = c then "equal" else if a = b or b = c or a = c then "two equal" else "any"
`

	vote = `table vote first
in a boolean, b boolean, c boolean
out passed boolean
rule true | true | - | true
rule true | - | true | true
rule - | true | true | true
rule - | - | - | a and b or b and c or a and c
`
)
