package fault

import (
	"strconv"
	"strings"

	"weir/api"
)

// numberWord stands ahead of a number that has no name of its own.
const numberWord = "errno "

type named struct {
	number api.Errno
	name   string
}

// names is made by a function because it is too long for a table at package level.
func names() []named {
	return []named{
		{0, "ok"},
		{api.ErrNil, "nil"}, {api.ErrRange, "range"}, {api.ErrFull, "full"},
		{api.ErrNone, "none"}, {api.ErrKnown, "known"}, {api.ErrLong, "long"},
		{api.ErrOver, "over"}, {api.ErrZero, "zero"},
		{api.ErrShort, "short"}, {api.ErrForm, "form"}, {api.ErrSum, "sum"}, {api.ErrMore, "more"},
		{api.ErrSpan, "span"}, {api.ErrTime, "time"},
		{api.ErrName, "name"}, {api.ErrText, "text"}, {api.ErrTags, "tags"}, {api.ErrKey, "key"},
		{api.ErrLine, "line"},
		{api.ErrField, "field"},
		{api.ErrBlock, "block"},
		{api.ErrSeries, "series"}, {api.ErrPoints, "points"},
		{api.ErrChar, "char"}, {api.ErrQuote, "quote"}, {api.ErrNumber, "number"},
		{api.ErrTree, "tree"},
		{api.ErrSyntax, "syntax"}, {api.ErrDeep, "deep"},
		{api.ErrSchema, "schema"}, {api.ErrMeasure, "measure"}, {api.ErrColumn, "column"},
		{api.ErrPlain, "plain"}, {api.ErrTwice, "twice"}, {api.ErrEvery, "every"},
		{api.ErrTarget, "target"}, {api.ErrFill, "fill"},
		{api.ErrPlan, "plan"},
		{api.ErrCode, "code"},
		{api.ErrStack, "stack"}, {api.ErrJump, "jump"}, {api.ErrOperand, "operand"}, {api.ErrEnd, "end"},
		{api.ErrFault, "fault"},
		{api.ErrQuery, "query"}, {api.ErrUsed, "used"}, {api.ErrInto, "into"},
		{api.ErrOld, "old"}, {api.ErrEdge, "edge"}, {api.ErrLevel, "level"},
		{api.ErrFile, "file"}, {api.ErrIO, "io"}, {api.ErrFate, "fate"},
		{api.ErrCorrupt, "corrupt"}, {api.ErrReadOnly, "readonly"},
		{api.ErrWord, "word"}, {api.ErrStore, "store"},
	}
}

// Name is a number's name.
func Name(e api.Errno) string {
	for _, n := range names() {
		if n.number == e {
			return n.name
		}
	}
	return numberWord + strconv.Itoa(int(e))
}

// Find is the number of a name.
func Find(name string) (api.Errno, error) {
	for _, n := range names() {
		if n.name == name {
			return n.number, nil
		}
	}
	digits, _ := strings.CutPrefix(name, numberWord)
	n, bad := strconv.Atoi(digits)
	// A name is what its number prints as: so errno 2 (its name is range), errno 07 and a bare 7 are none.
	if bad != nil || Name(api.Errno(n)) != name {
		return 0, New(api.ErrNone)
	}
	return api.Errno(n), nil
}
