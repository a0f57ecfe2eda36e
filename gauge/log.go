package gauge

import (
	"slices"

	"drowner/api"
)

// Log is a well that is kept while items come and go.
type Log struct{ well api.Well }

// New returns a log of a well.
func New(w api.Well) (*Log, api.Errno) {
	if e := Check(w); e != api.OK {
		return nil, e
	}
	return &Log{copyOf(w)}, api.OK
}

// Look adds a reading.
func (l *Log) Look(x api.Look) api.Errno {
	w := copyOf(l.well)
	w.Looks = append(w.Looks, x)
	return l.change(w)
}

// Peg adds a level that is known otherwise.
func (l *Log) Peg(x api.Peg) api.Errno {
	w := copyOf(l.well)
	w.Pegs = append(w.Pegs, x)
	return l.change(w)
}

// change makes the well another one, if that is right.
func (l *Log) change(w api.Well) api.Errno {
	e := Check(w)
	if e == api.OK {
		l.well = w
	}
	return e
}

// Take takes an item away.
func (l *Log) Take(id int) api.Errno {
	is := names{id: true}.has
	if !slices.ContainsFunc(idsOf(l.well), is) {
		return api.ErrNone
	}
	l.well = without(l.well, is)
	return api.OK
}

// Well returns the well as it stands.
func (l *Log) Well() api.Well { return copyOf(l.well) }

// Agrees reports whether there is a tale.
func (l *Log) Agrees() bool { return agrees(l.well) }
