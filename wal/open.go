package wal

import (
	"scriptorium/api"
	"scriptorium/disk"
	"scriptorium/frame"
)

// Open is the log that lies on a disk, and what it has; of a disk without a log
// it is a new one.
func Open(d *disk.Disk) (*Wal, Kept, api.Errno) {
	// What is left of a Checkpoint that was not done.
	if e := removeIfThere(d, nextFile); e != api.OK {
		return nil, Kept{}, e
	}
	w := &Wal{disk: d, turn: 1}
	rows, e := w.openBase()
	if e != api.OK {
		return nil, Kept{}, e
	}
	batches, e := w.openLog()
	if e != api.OK {
		return nil, Kept{}, e
	}
	w.synced = w.last
	return w, Kept{Rows: rows, Batches: batches}, api.OK
}

// openBase reads the file "base", if there is one.
func (w *Wal) openBase() ([]api.Row, api.Errno) {
	b, e := w.disk.Read(baseFile)
	if e == api.ErrName {
		return nil, api.OK
	}
	if e != api.OK {
		return nil, e
	}
	turn, last, rows, is := readBase(b)
	if !is {
		return nil, api.ErrCorrupt
	}
	w.turn = turn
	w.last = last
	return rows, api.OK
}

// openLog reads the file "log", or writes a new one, where there is none that
// goes on behind the base.
func (w *Wal) openLog() ([][]api.Op, api.Errno) {
	// Without a file there are no bytes, as in one whose head was never kept.
	b, e := w.disk.Read(logFile)
	if e != api.OK && e != api.ErrName {
		return nil, e
	}
	payloads, size := records(b)
	_, _, behind := frame.Next(b[size:])
	mayEnd := behind == api.ErrTrunc // torn, or nothing
	if len(payloads) == 0 && mayEnd {
		return nil, w.renewLog()
	}
	turn, last, is := readHead(payloads)
	if is && turn < w.turn {
		return nil, w.renewLog()
	}
	if !is || turn > w.turn || last != w.last || !mayEnd {
		return nil, api.ErrCorrupt
	}
	batches, is := readBatches(payloads[1:], last)
	if !is {
		return nil, api.ErrCorrupt
	}
	w.last += len(batches)
	return batches, keepFirst(w.disk, size, len(b))
}

// renewLog writes a new log in the place of one whose batches do not count.
func (w *Wal) renewLog() api.Errno {
	return inTurn(
		func() api.Errno { return removeIfThere(w.disk, logFile) },
		func() api.Errno { return writeLog(w.disk, w.turn, w.last) },
	)
}

// keepFirst cuts the file "log", which has so many bytes, off behind those that
// are whole records, and keeps these: perhaps not all were synced yet.
func keepFirst(d *disk.Disk, size, all int) api.Errno {
	if size < all {
		if e := d.Cut(logFile, size); e != api.OK {
			return e
		}
	}
	return d.Sync(logFile)
}

// removeIfThere leaves to the disk to tell whether there is such a file: without
// one it does no work.
func removeIfThere(d *disk.Disk, name string) api.Errno {
	e := d.Remove(name)
	if e == api.ErrName {
		return api.OK
	}
	return e
}

// records are what is in the records that b begins with, and how many bytes
// these records have.
func records(b []byte) (payloads [][]byte, size int) {
	for payload := range frame.All(b) {
		payloads = append(payloads, payload)
		size += len(numBytes(len(payload))) + len(payload) + sumBytes
	}
	return payloads, size
}

// readBase is what the file "base" tells, if it is whole.
func readBase(b []byte) (turn, last int, rows []api.Row, is bool) {
	payloads, size := records(b)
	if len(payloads) == 0 || size < len(b) {
		return 0, 0, nil, false
	}
	r := reader{left: payloads[0]}
	turn, last, count := r.number(), r.number(), r.number()
	if !r.isDone() || turn < 1 || count != len(payloads)-1 {
		return 0, 0, nil, false
	}
	for _, payload := range payloads[1:] {
		r := reader{left: payload}
		key, value := r.text(), r.text()
		if !r.isDone() {
			return 0, 0, nil, false
		}
		rows = append(rows, api.Row{Key: key, Value: value})
	}
	return turn, last, rows, checkRows(rows) == api.OK
}

// readHead is what the file "log" begins with, if that is a head.
func readHead(payloads [][]byte) (turn, last int, is bool) {
	if len(payloads) == 0 {
		return 0, 0, false
	}
	r := reader{left: payloads[0]}
	turn, last = r.number(), r.number()
	return turn, last, r.isDone() && turn >= 1
}

// readBatches are those that are numbered on behind the last one ahead, if all
// of them are.
func readBatches(payloads [][]byte, last int) (batches [][]api.Op, is bool) {
	for i, payload := range payloads {
		number, batch, is := readBatch(payload)
		if !is || number != last+1+i {
			return nil, false
		}
		batches = append(batches, batch)
	}
	return batches, true
}

// readBatch is what a batch's record tells, if it is one.
func readBatch(payload []byte) (number int, l []api.Op, is bool) {
	r := reader{left: payload}
	number, count := r.number(), r.number()
	if count > api.MaxBatch {
		return 0, nil, false
	}
	for range count {
		flag, key, value := r.number(), r.text(), r.text()
		if flag != flagPut && flag != flagDel {
			return 0, nil, false
		}
		l = append(l, api.Op{Key: key, Value: value, Del: flag == flagDel})
	}
	return number, l, r.isDone() && checkBatch(l) == api.OK
}
