// Package line: packets, and the bytes that they are on the line.
package line

import "concord/api"

// MaxEscaped is the most bytes that a packet has between its flags: each byte of its content escaped.
const MaxEscaped = 2 * maxContent

const (
	maxByte    = 255
	headSize   = 2 // Code and ID
	sumSize    = 2
	minContent = headSize + sumSize
	maxContent = minContent + api.MaxData

	sumStart = 1
	sumTimes = 17
)

// IsPacket tells whether p is a packet.
func IsPacket(p api.Packet) bool {
	return p.Code >= 1 && p.Code <= maxByte && p.ID >= 0 && p.ID <= maxByte && len(p.Data) <= api.MaxData
}

// Write makes the bytes on the line of p, which must be a packet.
func Write(p api.Packet) []byte {
	return enclose(contentOf(p))
}

// Read reads a packet from what stood between two flags. Its error is a FrameError or a ContentError.
func Read(b []byte) (api.Packet, error) {
	content, err := unescape(b)
	if err != nil {
		return api.Packet{}, err
	}
	return packetOf(content)
}

func contentOf(p api.Packet) []byte {
	b := make([]byte, 0, headSize+len(p.Data)+sumSize)
	b = append(b, byte(p.Code), byte(p.ID))
	b = append(b, p.Data...)
	s := sumOf(b)
	return append(b, byte(s), byte(s>>8))
}

func packetOf(content []byte) (api.Packet, error) {
	end := len(content) - sumSize
	s := uint16(content[end]) | uint16(content[end+1])<<8
	if s != sumOf(content[:end]) {
		return api.Packet{}, &ContentError{Size: len(content), Why: ErrSum}
	}
	if content[0] == 0 {
		return api.Packet{}, &ContentError{Size: len(content), Why: ErrCode}
	}
	return api.Packet{Code: int(content[0]), ID: int(content[1]), Data: string(content[headSize:end])}, nil
}

// sumOf leans on uint16's wrap-round for the modulo.
func sumOf(b []byte) uint16 {
	s := uint16(sumStart)
	for _, c := range b {
		s = s*sumTimes + uint16(c)
	}
	return s
}
