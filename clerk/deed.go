package clerk

// What can stand behind the word of a line, where it is not just a number (n).
const (
	asCount = 'c' // a number, or a hyphen
	asText  = 't' // anything that is not empty
)

// deed is what a line does: what must stand behind its word, which book must be true behind it (none, if it only asks), and what tells its answer.
type deed struct {
	form   string
	isTrue func(state) bool
	does   func(*task) string
}

// changes tells whether a line adds something to a book.
func (d deed) changes() bool { return d.isTrue != nil }

// deeds returns what a line with each word does. What the chapter calls T is a text behind buy and whose; behind cry it is a number, as the examples tell it there. A bond needs the book of layer 5, since that of layer 7 can be true if this one can.
func deeds() map[string]deed {
	return map[string]deed{
		"cry":  {"nnnnnnn", state.isShoalTrue, (*task).cry},
		"note": {"nnnn", state.isSeineTrue, (*task).note},
		"lot":  {"ncccnn", state.isCellarTrue, (*task).lot},
		"buy":  {"tnnn", state.isCellarTrue, (*task).buy},

		"where": {"n", nil, (*task).where},
		"shoot": {"nnn", nil, (*task).shoot},
		"soon":  {"nn", nil, (*task).soon},

		"held":  {"n", nil, (*task).held},
		"rate":  {"n", nil, (*task).rate},
		"empty": {"", nil, (*task).empty},
		"saved": {"", nil, (*task).saved},

		"fish":   {"n", nil, (*task).fish},
		"packed": {"n", nil, (*task).packed},
		"count":  {"nn", nil, (*task).count},
		"total":  {"", nil, (*task).total},
		"casks":  {"", nil, (*task).casks},
		"weigh":  {"", nil, (*task).weigh},

		"ready": {"n", nil, (*task).hogsheads},
		"gets":  {"n", nil, (*task).gets},
		"full":  {"", nil, (*task).full},
		"short": {"", nil, (*task).short},
		"fines": {"", nil, (*task).fines},
		"sell":  {"n", nil, (*task).sell},
		"later": {"n", nil, (*task).later},
		"drop":  {"", nil, (*task).drop},
		"whose": {"t", nil, (*task).whose},
	}
}
