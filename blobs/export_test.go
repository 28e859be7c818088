package blobs

import (
	"witness/api"
	"witness/segment"
)

// OpenWith is Open with another digest: what is promised of blobs that share one can be seen with no other.
func OpenWith(l *segment.Log, sum func(kind byte, body []byte) api.Sum) (*Blobs, api.Errno) {
	return open(l, sum)
}
