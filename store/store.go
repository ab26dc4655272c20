// Package store keeps some bytes on a disk, so that a loss of power while they
// are saved leaves them as they were or as they were to become.
//
// The disk holds two copies, which are written by turns, so that one is whole
// at any time. Each sector begins and ends with the stamp of its copy: one
// that is torn shows, because its stamps differ, and so does a copy of which
// only some sectors were written. A checksum would not do: it is right of some
// bytes that were never saved.
package store

import (
	"strings"

	"latch/api"
)

const (
	copies = 2
	room   = api.MaxSector - 2 // what a sector holds between its stamps

	// With three stamps, one by one in a circle, it shows which of two copies
	// was written behind the other, and the stamp that comes next is neither's.
	stamps  = 3
	noStamp = 0 // that of a blank sector
)

// Store knows how the bytes lie on a disk.
type Store struct {
	sectors int  // of each copy
	latest  int  // the copy that was written last
	stamp   byte // and its stamp, noStamp if no copy is whole
}

// Need tells how many sectors a disk must have for some bytes.
func Need(size int) int { return copies * sectorsOf(size) }

func sectorsOf(size int) int { return max(1, (size+room-1)/room) }

// Open finds the bytes on a disk that has the sectors it needs: noughts, if
// none were saved whole. The acts must take place ahead of those of Save.
func Open(size int, disk []string) (*Store, string, []api.Act) {
	s := &Store{sectors: sectorsOf(size)}
	s.findLatest(disk)
	data := strings.Repeat("\x00", size)
	if s.stamp != noStamp {
		data = contents(s.copyOn(disk, s.latest))[:size]
	}
	return s, data, s.makeReady(disk)
}

func (s *Store) findLatest(disk []string) {
	first, second := stampOf(s.copyOn(disk, 0)), stampOf(s.copyOn(disk, 1))
	switch {
	case second != noStamp && (first == noStamp || second == next(first)):
		s.latest, s.stamp = 1, second
	case first != noStamp:
		s.latest, s.stamp = 0, first
	}
}

func (s *Store) copyOn(disk []string, which int) []string {
	return disk[which*s.sectors : (which+1)*s.sectors]
}

// stampOf is the stamp of a copy, noStamp if it is not whole.
func stampOf(sectors []string) byte {
	stamp := sectors[0][0]
	for _, sector := range sectors {
		if sector[0] != stamp || endOf(sector) != stamp {
			return noStamp
		}
	}
	if stamp > stamps {
		return noStamp
	}
	return stamp
}

func endOf(sector string) byte { return sector[api.MaxSector-1] }

func next(stamp byte) byte { return stamp%stamps + 1 }

func contents(sectors []string) string {
	var data strings.Builder
	for _, sector := range sectors {
		data.WriteString(sector[1 : 1+room])
	}
	return data.String()
}

// makeReady blanks each sector that ends with the very stamp that is going to
// be written there next: were that write torn, the sector would seem whole.
// Blanking makes no copy whole, and spares the one that is the latest.
func (s *Store) makeReady(disk []string) []api.Act {
	var acts []api.Act
	which, stamp := s.latest, s.stamp
	for range copies {
		which, stamp = other(which), next(stamp)
		for i, sector := range s.copyOn(disk, which) {
			if endOf(sector) == stamp {
				acts = append(acts, s.write(which, i, "", noStamp))
			}
		}
	}
	if len(acts) == 0 {
		return nil
	}
	return append(acts, api.Act{Kind: api.Sync})
}

func other(which int) int { return (which + 1) % copies }

// Save tells the acts that put bytes, as many as the store was opened with, in
// the place of those that were saved last.
func (s *Store) Save(data string) []api.Act {
	s.latest, s.stamp = other(s.latest), next(s.stamp)
	var acts []api.Act
	for i := range s.sectors {
		acts = append(acts, s.write(s.latest, i, data[i*room:], s.stamp))
	}
	return append(acts, api.Act{Kind: api.Sync})
}

// write puts as much of some bytes as there is room for into a copy's sector.
func (s *Store) write(which, i int, data string, stamp byte) api.Act {
	sector := make([]byte, api.MaxSector)
	sector[0] = stamp
	copy(sector[1:1+room], data)
	sector[api.MaxSector-1] = stamp
	return api.Act{Kind: api.Write, Sector: which*s.sectors + i, Data: string(sector)}
}
