package clerk

import (
	"strconv"
	"strings"

	"huer/api"
	"huer/bond"
	"huer/bulk"
	"huer/cry"
	"huer/seine"
)

// nothing is the answer that has no numbers, and what is told of a count that was not made.
const nothing = "-"

// where, shoot and soon ask for the shoal.
func (t *task) where() string { return every(cry.Where(t.shoal(), t.numbers[0])) }

func (t *task) shoot() string {
	return single(cry.Shot(t.shoal(), t.numbers[0], t.numbers[1], t.numbers[2]))
}

func (t *task) soon() string {
	minute, square, e := cry.Soon(t.shoal(), t.numbers[0], t.numbers[1])
	return answer(e, minute, square)
}

// held, rate, empty and saved ask for the seine.
func (t *task) held() string { return ends(seine.Held(t.seine(), t.numbers[0])) }

func (t *task) rate() string { return ends(seine.Rate(t.seine(), t.numbers[0])) }

func (t *task) empty() string { return single(seine.Empty(t.seine())) }

func (t *task) saved() string { return ends(seine.Saved(t.seine())) }

// fish, packed, count, total, casks and weigh ask for the cellar.
func (t *task) fish() string { return ends(bulk.Fish(t.cellar(), t.numbers[0])) }

func (t *task) packed() string { return ends(bulk.Packed(t.cellar(), t.numbers[0])) }

func (t *task) count() string { return ends(bulk.Count(t.cellar(), t.numbers[0], t.numbers[1])) }

func (t *task) total() string { return ends(bulk.Total(t.cellar())) }

func (t *task) casks() string { return ends(bulk.Casks(t.cellar())) }

func (t *task) weigh() string { return single(bulk.Weigh(t.cellar())) }

// hogsheads, gets, full, short, fines, sell, later, drop and whose ask for the bonds.
func (t *task) hogsheads() string { return ends(bond.Casks(t.quay(), t.numbers[0])) }

func (t *task) gets() string { return ends(bond.Gets(t.quay(), t.numbers[0])) }

func (t *task) full() string { return every(bond.Full(t.quay())) }

func (t *task) short() string { return ends(bond.Short(t.quay())) }

func (t *task) fines() string { return ends(bond.Fines(t.quay())) }

func (t *task) sell() string { return single(bond.Sell(t.quay(), t.numbers[0])) }

func (t *task) later() string { return single(bond.Later(t.quay(), t.numbers[0])) }

func (t *task) drop() string { return every(bond.Drop(t.quay())) }

func (t *task) whose() string {
	var list []int
	for number, buyer := range t.buyers {
		if buyer == t.who {
			list = append(list, number)
		}
	}
	return answer(api.OK, list...)
}

// answer returns numbers as an answer; it fails if a layer did not tell them.
func answer(e api.Errno, numbers ...int) string {
	require(e == api.OK, errorOfLine(e))
	if len(numbers) == 0 {
		return nothing
	}
	texts := make([]string, len(numbers))
	for at, number := range numbers {
		texts[at] = strconv.Itoa(number)
	}
	return strings.Join(texts, " ")
}

// errorOfLine returns the error of a line for one of a layer: what cannot be asked has a number that is not between its limits.
func errorOfLine(e api.Errno) api.Errno {
	switch e {
	case api.ErrCryAsk, api.ErrSeineAsk, api.ErrBulkAsk, api.ErrBondAsk:
		return api.ErrRange
	}
	return e
}

// single returns the answer of what a layer tells as a number.
func single(number int, e api.Errno) string { return answer(e, number) }

// ends returns the answer of what a layer tells as a span.
func ends(s api.Span, e api.Errno) string { return answer(e, s.Low, s.High) }

// every returns the answer of what a layer tells as a list.
func every(list []int, e api.Errno) string { return answer(e, list...) }
