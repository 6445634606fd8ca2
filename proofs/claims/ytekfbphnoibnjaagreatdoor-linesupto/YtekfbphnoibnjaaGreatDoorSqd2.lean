/-
  What is squeezed is stretched; a byte less is too short, a byte more is a trail: as plain facts on the answers.
-/
import Derived.Test.YtekfbphnoibnjaaGreatDoorPStr
namespace Go.Proofs.YtekfbphnoibnjaaGreatDoor

theorem plain_ctx (bs : List (Int × Int)) : Rdr.ctxs (ctxOf bs) = (plain bs).map (·.1) := by
  unfold Rdr.ctxs ctxOf plain; simp
theorem plain_val (bs : List (Int × Int)) : (plain bs).map (·.2) = bs.map (·.2) := by
  unfold plain; simp
theorem ctxOf_len (bs : List (Int × Int)) : (ctxOf bs).length = bs.length := by unfold ctxOf; simp
theorem ctxOf_ok {bs : List (Int × Int)} (h : ∀ i, i < bs.length → bitOk (bs.getD i (0, 0))) : Rdr.CtxOk (ctxOf bs) := by
  intro i hi
  rw [ctxOf_len] at hi
  have := (h i hi).1
  unfold ctxOf
  rw [List.getD_eq_getElem?_getD, List.getElem?_map, List.getElem?_eq_getElem hi]
  rw [List.getD_eq_getElem?_getD, List.getElem?_eq_getElem hi] at this
  exact this
theorem all_eq (S : ByteArray) (bs : List (Int × Int)) : Rdr.all S ch0 (ctxOf bs) (ctxOf bs).length = Rdr.bits S (Rdr.start S ch0) ((plain bs).map (·.1)) := by
  unfold Rdr.all
  rw [List.take_of_length_le (Nat.le_refl _), plain_ctx]
theorem strE_eq (S : ByteArray) {bs : List (Int × Int)} (h : ∀ i, i < bs.length → bitOk (bs.getD i (0, 0))) (hl : bs.length ≤ 4000) : strE S (ctxOf bs) = (Rdr.finish S (Rdr.bits S (Rdr.start S ch0) ((plain bs).map (·.1))).2).err := by
  unfold strE
  rw [if_neg (by rw [ctxOf_len]; omega), if_pos ((ctxB_iff _).2 (ctxOf_ok h))]
  unfold Rdr.stE
  rw [all_eq]

/-- What is squeezed is stretched. -/
theorem sq_back {S : ByteArray} {bs : List (Int × Int)} (h : ∀ i, i < bs.length → bitOk (bs.getD i (0, 0))) (hl : bs.length ≤ 4000) (hS : S = endStr (Pack.fin (plain bs))) : strE S (ctxOf bs) = 0 ∧ strL S (ctxOf bs) = bs.map (·.2) := by
  obtain ⟨r1, r2, r3⟩ := Pack.read_back (plain_ok h) (endStr_bytes _)
  rw [← hS] at r1 r2 r3
  have e0 : strE S (ctxOf bs) = 0 := by
    rw [strE_eq S h hl]
    unfold Rdr.finish
    rw [if_neg (fun hh => by omega)]
    exact r2
  refine ⟨e0, ?_⟩
  unfold strL
  rw [if_pos e0, all_eq, r1, plain_val]

theorem sq_size {S : ByteArray} {bs : List (Int × Int)} (hS : S = endStr (Pack.fin (plain bs))) : 4 ≤ S.size ∧ S.size ≤ 4 + bs.length := by
  have h1 := (endStr_bytes (Pack.fin (plain bs))).size
  have h2 := Pack.puts_m (plain bs) Pack.init
  have h3 : (plain bs).length = bs.length := by unfold plain; simp
  have h4 : Pack.init.m = 0 := rfl
  have h5 : (Pack.fin (plain bs)).m ≤ Pack.init.m + (plain bs).length := h2
  rw [hS, h1]
  omega

/-- A byte more is a trail. -/
theorem sq_more {S T : ByteArray} {bs : List (Int × Int)} (h : ∀ i, i < bs.length → bitOk (bs.getD i (0, 0))) (hl : bs.length ≤ 4000) (hS : S = endStr (Pack.fin (plain bs))) (hT : Rdr.Ext S T) (hlt : S.size < T.size) : strE T (ctxOf bs) = 6 := by
  obtain ⟨r1, r2, r3⟩ := Pack.read_back (plain_ok h) (endStr_bytes _)
  have hst := (Pack.start_rel (plain_ok h) (endStr_bytes (Pack.fin (plain bs)))).err
  rw [← hS] at r1 r2 r3 hst
  rw [strE_eq T h hl, hT.start ch0 (Rdr.start_four hst), hT.bits _ _ r2]
  unfold Rdr.finish
  rw [if_pos ⟨r2, by omega⟩]

theorem four_err5 (s : ByteArray) (ch : List Int) : ∀ n, (Rdr.four s (Rdr.r0 ch) n).err = 0 ∨ (Rdr.four s (Rdr.r0 ch) n).err = 5
  | 0 => .inl rfl
  | n + 1 => by
    rw [Rdr.four_succ]
    show (Rdr.octS s (Rdr.four s (Rdr.r0 ch) n)).err = 0 ∨ (Rdr.octS s (Rdr.four s (Rdr.r0 ch) n)).err = 5
    unfold Rdr.octS
    split
    · exact four_err5 s ch n
    · show (if (Rdr.four s (Rdr.r0 ch) n).err = 0 then (5 : Int) else (Rdr.four s (Rdr.r0 ch) n).err) = 0 ∨ (if (Rdr.four s (Rdr.r0 ch) n).err = 0 then (5 : Int) else (Rdr.four s (Rdr.r0 ch) n).err) = 5
      rcases four_err5 s ch n with ih | ih <;> rw [ih]
      · exact .inr rfl
      · exact .inr rfl
theorem bits_err5 (s : ByteArray) : ∀ (ks : List Nat) (r : RS), r.err = 0 ∨ r.err = 5 → (Rdr.bits s r ks).2.err = 0 ∨ (Rdr.bits s r ks).2.err = 5
  | [], _, h => h
  | k :: ks, r, h => by
    show (Rdr.bits s (Rdr.bitS s r k) ks).2.err = 0 ∨ (Rdr.bits s (Rdr.bitS s r k) ks).2.err = 5
    refine bits_err5 s ks _ ?_
    rcases h with h | h
    · exact bit_err s r k h
    · unfold Rdr.bitS
      rw [if_neg (by rw [h]; decide)]
      exact .inr h

/-- A byte less is too short. -/
theorem sq_less {S T : ByteArray} {bs : List (Int × Int)} (h : ∀ i, i < bs.length → bitOk (bs.getD i (0, 0))) (hl : bs.length ≤ 4000) (hS : S = endStr (Pack.fin (plain bs))) (hT : Rdr.Ext T S) (hlt : T.size < S.size) : strE T (ctxOf bs) = 5 := by
  obtain ⟨r1, r2, r3⟩ := Pack.read_back (plain_ok h) (endStr_bytes _)
  have hst := (Pack.start_rel (plain_ok h) (endStr_bytes (Pack.fin (plain bs)))).err
  rw [← hS] at r1 r2 r3 hst
  have hks : ∀ k ∈ (plain bs).map (·.1), k < 400 := fun k hk => by
    obtain ⟨p, hp, rfl⟩ := List.mem_map.1 hk
    exact (plain_ok h p hp).1
  have h05 : (Rdr.start T ch0).err = 0 ∨ (Rdr.start T ch0).err = 5 := by
    rcases four_err5 T ch0 4 with h4 | h4
    · rw [← hT.start ch0 h4]; exact .inl hst
    · rw [Rdr.start_eq, if_neg (fun hh => by rw [h4] at hh; exact absurd hh.1 (by decide))]; exact .inr h4
  have hb := bits_err5 T ((plain bs).map (·.1)) _ h05
  have hok := Rdr.bits_ok (s := T) ((plain bs).map (·.1)) _ (Rdr.start_ok T ch0 ch0_ok) hks
  have h5 : (Rdr.bits T (Rdr.start T ch0) ((plain bs).map (·.1))).2.err = 5 := by
    rcases hb with hb | hb
    · exfalso
      have h0 := Rdr.bits_err0 _ _ hb
      have hs := hT.start ch0 (Rdr.start_four h0)
      have he := hT.bits _ _ hb
      rw [hs, he] at r3
      have := hok.pos
      omega
    · exact hb
  rw [strE_eq T h hl]
  unfold Rdr.finish
  rw [if_neg (fun hh => by rw [h5] at hh; exact absurd hh.1 (by decide)), h5]

theorem ext_take (S : ByteArray) (n : Nat) (hn : n ≤ S.size) : Rdr.Ext (S.extract 0 n) S ∧ (S.extract 0 n).size = n := by
  have hs : (S.extract 0 n).size = n := by simp; omega
  refine ⟨⟨by omega, fun i hi => ?_⟩, hs⟩
  rw [byteAt_get S i (by omega), byteAt_get (S.extract 0 n) i hi]
  simp [ByteArray.getElem_extract]
theorem ext_app (S X : ByteArray) : Rdr.Ext S (S ++ X) ∧ (S ++ X).size = S.size + X.size := by
  have hs : (S ++ X).size = S.size + X.size := by simp
  refine ⟨⟨by omega, fun i hi => ?_⟩, hs⟩
  rw [byteAt_get S i hi, byteAt_get (S ++ X) i (by omega), ByteArray.getElem_append_left hi]

end Go.Proofs.YtekfbphnoibnjaaGreatDoor
