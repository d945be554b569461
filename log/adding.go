package log

// adding of a deed. Anything may stand where it is laid, also what goes together with a part of it.
// So its first sector is noughts, for good, till all others are there, for good:
// a log ends ahead of noughts, and the write of the first sector alone makes a deed of them.
type adding struct {
	log     *Log
	sectors []string
}

// run the steps. Of what isn't flushed any part may be lost: so the rest is laid only behind a flush of the cut,
// and the first sector only behind a flush of the rest.
func (a adding) run() error {
	flush := a.log.disk.Flush
	for _, step := range []func() error{a.cut, flush, a.layRest, a.layEnd, flush, a.layFirst, flush} {
		if err := step(); err != nil {
			return err
		}
	}
	return nil
}

// write on the i-th sector behind the last deed.
func (a adding) write(i int, text string) error {
	return a.log.disk.Write(a.log.from+a.log.used+i, text)
}

// cut the log behind the last deed.
func (a adding) cut() error { return a.write(0, "") }

// layRest: all sectors but the first one.
func (a adding) layRest() error {
	for i := 1; i < len(a.sectors); i++ {
		if err := a.write(i, a.sectors[i]); err != nil {
			return err
		}
	}
	return nil
}

// layEnd: noughts behind the deed, if the log goes on there, so that nothing that stood there is a deed now.
func (a adding) layEnd() error {
	if len(a.sectors) == a.log.Room() {
		return nil
	}
	return a.write(len(a.sectors), "")
}

// layFirst: the sector that makes a deed of the others.
func (a adding) layFirst() error { return a.write(0, a.sectors[0]) }
