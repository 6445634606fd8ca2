/-
  Plain arithmetic of a pixel turned and turned back; no program in sight.
-/
namespace Go.Proofs.YtekfbphnoibnjaaGreatDoor.Pix

def tT (r b : Int) : Int := b + (r - b) / 2
def tV (r g b : Int) : Int := g - tT r b
def tY (r g b : Int) : Int := tT r b + tV r g b / 2

def bT (y v : Int) : Int := y - v / 2
def bG (y v : Int) : Int := v + bT y v
def bB (y u v : Int) : Int := bT y v - u / 2
def bR (y u v : Int) : Int := u + bB y u v

def isPix (y u v : Int) : Prop := (0 ≤ bR y u v ∧ bR y u v ≤ 255) ∧ (0 ≤ bG y v ∧ bG y v ≤ 255) ∧ (0 ≤ bB y u v ∧ bB y u v ≤ 255)

theorem tbounds (r g b : Int) (r0 : 0 ≤ r) (r1 : r ≤ 255) (g0 : 0 ≤ g) (g1 : g ≤ 255) (b0 : 0 ≤ b) (b1 : b ≤ 255) :
    (0 ≤ tT r b ∧ tT r b ≤ 255) ∧ (-255 ≤ tV r g b ∧ tV r g b ≤ 255) ∧ (0 ≤ tY r g b ∧ tY r g b ≤ 255) := by
  unfold tY tV tT; omega
theorem back_turn (r g b : Int) : bR (tY r g b) (r - b) (tV r g b) = r ∧ bG (tY r g b) (tV r g b) = g ∧ bB (tY r g b) (r - b) (tV r g b) = b := by
  unfold bR bB bG bT tY tV tT; omega
theorem turn_back (y u v : Int) : tY (bR y u v) (bG y v) (bB y u v) = y ∧ bR y u v - bB y u v = u ∧ tV (bR y u v) (bG y v) (bB y u v) = v := by
  unfold tY tV tT bR bB bG bT; omega
theorem turn_isPix (r g b : Int) (r0 : 0 ≤ r) (r1 : r ≤ 255) (g0 : 0 ≤ g) (g1 : g ≤ 255) (b0 : 0 ≤ b) (b1 : b ≤ 255) : isPix (tY r g b) (r - b) (tV r g b) := by
  unfold isPix; obtain ⟨e1, e2, e3⟩ := back_turn r g b; rw [e1, e2, e3]; omega
theorem near (y u v : Int) (h : isPix y u v) : (-255 ≤ y ∧ y ≤ 255) ∧ (-255 ≤ u ∧ u ≤ 255) ∧ (-255 ≤ v ∧ v ≤ 255) := by
  unfold isPix bR bB bG bT at h; omega
theorem grey (a : Int) : tT a a = a ∧ tV a a a = 0 ∧ tY a a a = a := by unfold tY tV tT; omega

end Go.Proofs.YtekfbphnoibnjaaGreatDoor.Pix
