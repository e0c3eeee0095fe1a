package works

import (
	"strconv"
	"strings"

	"canting/api"
)

// recordEnd is the byte behind the line of a record.
const recordEnd = "\n"

// record returns an entry as it stands on a disk.
func (e Entry) record() string {
	return strconv.Itoa(e.Time) + " " + strconv.Itoa(e.Shop) + " " + strconv.Itoa(e.No) + " " + e.Line + recordEnd
}

// entryOf returns the entry of a record, which is given without its end, and false if it is none.
func entryOf(record string) (Entry, bool) {
	words := strings.SplitN(record, " ", 4)
	if len(words) < 4 {
		return Entry{}, false
	}
	time, isTime := number(words[0])
	shop, isShop := number(words[1])
	no, isNo := number(words[2])
	e := Entry{time, shop, no, words[3]}
	return e, isTime && isShop && isNo && isEntry(e)
}

// records returns the entries of the records with which s begins, and how long these are together.
func records(s string) ([]Entry, int) {
	var entries []Entry
	met := names{}
	rest := s
	for {
		record, behind, ended := strings.Cut(rest, recordEnd)
		e, ok := entryOf(record)
		if !ended || !ok || !met.add(e) {
			return entries, len(s) - len(rest)
		}
		entries = append(entries, e)
		rest = behind
	}
}

// fits reports whether the records of entries have room on a disk.
func (d *Disk) fits(l []Entry) bool {
	length := 0
	for _, e := range l {
		length += len(e.record())
	}
	return length <= d.room()
}

// write adds the records of entries, and makes all bytes safe.
func (d *Disk) write(l []Entry) api.Errno {
	for _, entry := range l {
		if e := d.Append([]byte(entry.record())); e != api.OK {
			return e
		}
	}
	return d.Sync()
}

// restart cuts a disk to its records, makes them safe and returns their entries.
func (d *Disk) restart() ([]Entry, api.Errno) {
	b, e := d.Read()
	if e != api.OK {
		return nil, e
	}
	entries, length := records(string(b))
	if length < len(b) {
		if e := d.Cut(length); e != api.OK {
			return nil, e
		}
	}
	if e := d.Sync(); e != api.OK {
		return nil, e
	}
	return entries, api.OK
}
