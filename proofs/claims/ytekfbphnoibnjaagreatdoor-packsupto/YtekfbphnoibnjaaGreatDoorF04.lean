/-
  A film in the making, as it lies in memory. A pixel of a film in the making is looked at, is put. The pixels of a block, one after the other; no program in sight.
-/
import Derived.Test.YtekfbphnoibnjaaGreatDoorF02
import Derived.Test.YtekfbphnoibnjaaGreatDoorF03
namespace Go.Proofs.YtekfbphnoibnjaaGreatDoor
open Go.RowKit
open Flm (Px FS)
def pxCells (ps : List Px) : List Value:=ps.flatMap fun p => [.int .u8 p.1,.int .u8 p.2.1,.int .u8 p.2.2]
theorem pxCells_cons (p : Px) (ps : List Px) : pxCells (p :: ps) = .int .u8 p.1 :: .int .u8 p.2.1 :: .int .u8 p.2.2 :: pxCells ps:=by simp [pxCells]
theorem pxCells_len (ps : List Px) : (pxCells ps).length = ps.length * 3:=by
 induction ps with
 | nil => rfl
 | cons b bs ih => rw [pxCells_cons]; simp; omega
theorem pxCells_app (xs ys : List Px) : pxCells (xs ++ ys) = pxCells xs ++ pxCells ys:=by simp [pxCells]
theorem pxCells_get (ps : List Px) (i : Nat) (h : i < ps.length) : (pxCells ps)[i * 3]? = some (.int .u8 (ps.getD i (0,0,0)).1) /\ (pxCells ps)[i * 3 + 1]? = some (.int .u8 (ps.getD i (0,0,0)).2.1) /\ (pxCells ps)[i * 3 + 2]? = some (.int .u8 (ps.getD i (0,0,0)).2.2):=by
 induction ps generalizing i with
 | nil => simp at h
 | cons b bs ih =>
  rw [pxCells_cons]
  cases i with
  | zero => simp
  | succ i =>
   have:=ih i (by simpa using h)
   rw [show (i + 1) * 3 = i * 3 + 1 + 1 + 1 by omega]
   simpa using this
theorem pxCells_set (ps : List Px) (i : Nat) (p : Px) (h : i < ps.length) : (((pxCells ps).set (i * 3) (.int .u8 p.1)).set (i * 3 + 1) (.int .u8 p.2.1)).set (i * 3 + 2) (.int .u8 p.2.2) = pxCells (ps.set i p):=by
 induction ps generalizing i with
 | nil => simp at h
 | cons c bs ih =>
  cases i with
  | zero => rw [pxCells_cons]; simp [pxCells_cons]
  | succ i =>
   rw [pxCells_cons,List.set_cons_succ,pxCells_cons,<- ih i (by simpa using h),show (i + 1) * 3 = i * 3 + 1 + 1 + 1 by omega]
   simp
theorem oneCell_px (ps : List Px) : ∀ u ∈ pxCells ps,u.oneCell' = true:=by
 intro u hu
 unfold pxCells at hu
 obtain ⟨b,_,hb⟩:=List.mem_flatMap.1 hu
 simp at hb
 rcases hb with rfl | rfl | rfl <;> rfl
theorem made_px (n : Nat) : (madeCells #[Value.int .u8 0,Value.int .u8 0,Value.int .u8 0] (n * 3)).toList = pxCells (List.replicate n (0,0,0)):=by
 apply List.ext_getElem?
 intro i
 by_cases h : i < n * 3
 ·have h1 : (madeCells #[Value.int .u8 0,Value.int .u8 0,Value.int .u8 0] (n * 3)).toList[i]? = some (.int .u8 0):=by
   simp only [madeCells,Array.toList_map,List.getElem?_map,Array.toList_range,List.getElem?_range h,Option.map_some]
   have h3 : i % 3 = 0 \/ i % 3 = 1 \/ i % 3 = 2:=by omega
   rcases h3 with h3 | h3 | h3 <;> simp [h3]
  have h2 : (pxCells (List.replicate n (0,0,0)))[i]? = some (.int .u8 0):=by
   obtain ⟨k0,k1,k2⟩:=pxCells_get (List.replicate n (0,0,0)) (i / 3) (by simp; omega)
   have e : (List.replicate n ((0,0,0) : Px)).getD (i / 3) (0,0,0) = (0,0,0):=by
    rw [List.getD_eq_getElem?_getD,List.getElem?_replicate]; split <;> rfl
   rw [e] at k0 k1 k2
   have h3 : i = i / 3 * 3 \/ i = i / 3 * 3 + 1 \/ i = i / 3 * 3 + 2:=by omega
   rcases h3 with h3 | h3 | h3 <;> rw [h3] <;> assumption
  rw [h1,h2]
 ·rw [List.getElem?_eq_none (by simp [size_madeCells]; omega),List.getElem?_eq_none (by rw [pxCells_len]; simp; omega)]
theorem infoPx : (Tryz.prog.info? 50).map (fun i => (i.zero,i.size,i.bytes)) = some (some (.agg #[.int .u8 0,.int .u8 0,.int .u8 0]),3,3):=by kernel_rfl
def Pixs (w : World) (B fb N : Nat) (ps : List Px) : Prop:=w.ownsRow B 50 3 (.slice (some ⟨fb,0,none⟩) N N) N (pxCells ps)
theorem Pixs.len {w : World} {B fb N : Nat} {ps : List Px} (h : Pixs w B fb N ps) : ps.length = N:=by
 have:=h.1; rw [pxCells_len] at this; omega
theorem Pixs.cell {w : World} {B fb N : Nat} {ps : List Px} (h : Pixs w B fb N ps) (k : Nat) (hk : k < N) : w.cell? ⟨fb,k * 3,none⟩ = some (.int .u8 (ps.getD k (0,0,0)).1) /\ w.cell? ⟨fb,k * 3 + 1,none⟩ = some (.int .u8 (ps.getD k (0,0,0)).2.1) /\ w.cell? ⟨fb,k * 3 + 2,none⟩ = some (.int .u8 (ps.getD k (0,0,0)).2.2):=by
 obtain ⟨a,b,c⟩:=pxCells_get ps k (by rw [h.len]; exact hk)
 exact ⟨(World.ownsRow.cellAt h _ (by omega)).trans a,(World.ownsRow.cellAt h _ (by omega)).trans b,(World.ownsRow.cellAt h _ (by omega)).trans c⟩
theorem Pixs.frozen {w : World} {B fb N : Nat} {ps : List Px} (h : Pixs w B fb N ps) (k : Nat) : w.frozen? ⟨fb,k,none⟩ = false:=World.ownsRow.frozenAt h k
theorem Pixs.lt {w : World} {B fb N : Nat} {ps : List Px} (h : Pixs w B fb N ps) : B <= fb /\ fb < w.heap.size:=World.ownsRow.lt h fb rfl
theorem Pixs.store {w : World} {B fb N : Nat} {ps : List Px} (h : Pixs w B fb N ps) (k : Nat) (hk : k < N) (p : Px) : Pixs (((w.setCell ⟨fb,k * 3,none⟩ (.int .u8 p.1)).setCell ⟨fb,k * 3 + 1,none⟩ (.int .u8 p.2.1)).setCell ⟨fb,k * 3 + 2,none⟩ (.int .u8 p.2.2)) B fb N (ps.set k p):=by
 have h1:=(World.ownsRow.stored h (k * 3) (.int .u8 p.1)).1
 have h2:=(World.ownsRow.stored h1 (k * 3 + 1) (.int .u8 p.2.1)).1
 have h3:=(World.ownsRow.stored h2 (k * 3 + 2) (.int .u8 p.2.2)).1
 rw [pxCells_set ps k p (by rw [h.len]; exact hk)] at h3
 exact h3
theorem Frm.pixs {S : Nat -> Prop} {a b : World} (h : Frm S a b) {B fb N : Nat} {ps : List Px} (ho : Pixs a B fb N ps) (hn : ¬ S fb) : Pixs b B fb N ps :=
 h.owns ho (fun k e => by simp [Value.ownBlock] at e; subst e; exact hn)
def Bools (w : World) (B g N : Nat) (bs : List Bool) : Prop:=w.ownsRow B 4 1 (.slice (some ⟨g,0,none⟩) N N) N (bs.map .bool)
theorem Bools.len {w : World} {B g N : Nat} {bs : List Bool} (h : Bools w B g N bs) : bs.length = N:=by
 have:=h.1; rw [List.length_map] at this; omega
theorem Bools.cell {w : World} {B g N : Nat} {bs : List Bool} (h : Bools w B g N bs) (k : Nat) (hk : k < N) : w.cell? ⟨g,k,none⟩ = some (.bool (bs.getD k false)):=by
 have hl:=h.len
 rw [World.ownsRow.cellAt h k (by omega),List.getElem?_map,List.getD_eq_getElem?_getD,List.getElem?_eq_getElem (by omega)]; rfl
theorem Bools.frozen {w : World} {B g N : Nat} {bs : List Bool} (h : Bools w B g N bs) (k : Nat) : w.frozen? ⟨g,k,none⟩ = false:=World.ownsRow.frozenAt h k
theorem Bools.lt {w : World} {B g N : Nat} {bs : List Bool} (h : Bools w B g N bs) : B <= g /\ g < w.heap.size:=World.ownsRow.lt h g rfl
theorem Bools.store {w : World} {B g N : Nat} {bs : List Bool} (h : Bools w B g N bs) (k : Nat) (v : Bool) : Bools (w.setCell ⟨g,k,none⟩ (.bool v)) B g N (bs.set k v):=by
 have:=(World.ownsRow.stored h k (.bool v)).1
 rw [show (bs.map Value.bool).set k (.bool v) = (bs.set k v).map Value.bool by rw [List.map_set]] at this
 exact this
theorem Frm.bools {S : Nat -> Prop} {a b : World} (h : Frm S a b) {B g N : Nat} {bs : List Bool} (ho : Bools a B g N bs) (hn : ¬ S g) : Bools b B g N bs :=
 h.owns ho (fun k e => by simp [Value.ownBlock] at e; subst e; exact hn)
def rowVals (N : Nat) (fbs : List Nat) : List Value:=fbs.map fun f => .slice (some ⟨f,0,none⟩) N N
structure ShAt (w : World) (B p b g lg lc rg : Nat) (fbs : List Nat) (s : ByteArray) (z : Nat) (fs : FS) : Prop where
 rd : RdAt w B b g s fs.r
 ok : Rdr.Ok s fs.r
 c0 : w.cell? ⟨p,0,none⟩ = some (.pointer (some ⟨b,0,none⟩))
 c1 : w.cell? ⟨p,1,none⟩ = some (.int .i64 z)
 c2 : w.cell? ⟨p,2,none⟩ = some (.slice (some ⟨lg,0,none⟩) fs.frs.length lc)
 c3 : w.cell? ⟨p,3,none⟩ = some (.slice (some ⟨rg,0,none⟩) (z * z) (z * z))
 c4 : w.cell? ⟨p,4,none⟩ = some (.int .i64 fs.fr)
 c5 : w.cell? ⟨p,5,none⟩ = some (.int .i64 fs.x)
 c6 : w.cell? ⟨p,6,none⟩ = some (.int .i64 fs.y)
 fz : ∀ o,w.frozen? ⟨p,o,none⟩ = false
 rows : w.ownsRow B 58 1 (.slice (some ⟨lg,0,none⟩) fs.frs.length lc) fs.frs.length (rowVals (z * z) fbs)
 frs : ∀ i,i < fs.frs.length -> Pixs w B (fbs.getD i 0) (z * z) (fs.frs.getD i [])
 read : Bools w B rg (z * z) fs.rd
 n1 : fbs.length = fs.frs.length
 n2 : 0 < fs.frs.length /\ fs.frs.length <= 8
 zz : z = 4 \/ z = 8 \/ z = 16
 ne : (p :: b :: g :: lg :: rg :: fbs).Nodup
 px : ∀ i k,Flm.okPx (Flm.px fs i k)
 lo : B <= p
 up : p < w.heap.size
def shS (p b g rg fb : Nat) : Nat -> Prop:=fun k => k = p \/ k = b \/ k = g \/ k = rg \/ k = fb
variable {w w' : World} {B p b g lg lc rg z : Nat} {fbs : List Nat} {s : ByteArray} {fs : FS}
theorem ShAt.zzle (h : ShAt w B p b g lg lc rg fbs s z fs) : z * z <= 256:=by
 rcases h.zz with e | e | e <;> subst e <;> decide
theorem ShAt.fb_mem (h : ShAt w B p b g lg lc rg fbs s z fs) {i : Nat} (hi : i < fs.frs.length) : fbs.getD i 0 ∈ fbs:=by
 have:=h.n1
 rw [List.getD_eq_getElem?_getD,List.getElem?_eq_getElem (by omega)]
 exact List.getElem_mem _
theorem ShAt.fb_inj (h : ShAt w B p b g lg lc rg fbs s z fs) {i j : Nat} (hi : i < fs.frs.length) (hj : j < fs.frs.length) (e : fbs.getD i 0 = fbs.getD j 0) : i = j:=by
 have hn:=h.n1
 have hnd : fbs.Nodup:=by
  have:=h.ne
  simp only [List.nodup_cons] at this
  exact this.2.2.2.2.2
 rw [List.getD_eq_getElem?_getD,List.getD_eq_getElem?_getD,List.getElem?_eq_getElem (by omega),List.getElem?_eq_getElem (by omega)] at e
 have hpw:=List.pairwise_iff_getElem.1 hnd
 rcases Nat.lt_trichotomy i j with h' | h' | h'
 ·exact absurd e (hpw i j (by omega) (by omega) h')
 ·exact h'
 ·exact absurd e.symm (hpw j i (by omega) (by omega) h')
theorem ShAt.row (h : ShAt w B p b g lg lc rg fbs s z fs) {i : Nat} (hi : i < fs.frs.length) : w.cell? ⟨lg,i,none⟩ = some (.slice (some ⟨fbs.getD i 0,0,none⟩) (z * z) (z * z)):=by
 have hn:=h.n1
 rw [World.ownsRow.cellAt h.rows i (by omega)]
 unfold rowVals
 rw [List.getElem?_map,List.getElem?_eq_getElem (by omega),List.getD_eq_getElem?_getD,List.getElem?_eq_getElem (by omega)]
 rfl
theorem ShAt.frm {S : Nat -> Prop} (h : ShAt w B p b g lg lc rg fbs s z fs) (f : Frm S w w') (hn : ∀ k,k = p \/ k = b \/ k = g \/ k = lg \/ k = rg \/ k ∈ fbs -> ¬ S k) : ShAt w' B p b g lg lc rg fbs s z fs:=by
 have hp:=hn p (.inl rfl)
 refine ⟨h.rd.frm f (hn b (.inr (.inl rfl))) (hn g (.inr (.inr (.inl rfl)))),h.ok,f.cell h.c0 hp,f.cell h.c1 hp,f.cell h.c2 hp,f.cell h.c3 hp,f.cell h.c4 hp,f.cell h.c5 hp,f.cell h.c6 hp,fun o => (World.frozen?_of_block (a:=⟨p,o,none⟩) (f.block p h.up hp)).trans (h.fz o),
  f.owns h.rows (fun k e => by simp [Value.ownBlock] at e; subst e; exact hn _ (by simp)),fun i hi => f.pixs (h.frs i hi) (hn _ (.inr (.inr (.inr (.inr (.inr (h.fb_mem hi))))))),f.bools h.read (hn _ (by simp)),h.n1,h.n2,h.zz,h.ne,h.px,h.lo,Nat.lt_of_lt_of_le h.up f.size⟩
theorem ShAt.below (h : ShAt w B p b g lg lc rg fbs s z fs) (f : Below w.heap.size w w') : ShAt w' B p b g lg lc rg fbs s z fs :=
 h.frm (Frm.of_below (S:=fun _ => False) f) (fun _ _ e => e)
theorem ShAt.nes (h : ShAt w B p b g lg lc rg fbs s z fs) : (p ≠ b /\ p ≠ g /\ p ≠ lg /\ p ≠ rg /\ p ∉ fbs) /\ (b ≠ g /\ b ≠ lg /\ b ≠ rg /\ b ∉ fbs) /\ (g ≠ lg /\ g ≠ rg /\ g ∉ fbs) /\ (lg ≠ rg /\ lg ∉ fbs) /\ rg ∉ fbs /\ fbs.Nodup:=by
 have:=h.ne
 simp only [List.nodup_cons,List.mem_cons,not_or] at this
 exact this
theorem ShAt.reader (h : ShAt w B p b g lg lc rg fbs s z fs) {r : RS} (hr : RdAt w' B b g s r) (hok : Rdr.Ok s r) (f : Frm (rdS b g) w w') : ShAt w' B p b g lg lc rg fbs s z { fs with r:=r }:=by
 obtain ⟨⟨n1,n2,n3,n4,n5⟩,⟨n6,n7,n8,n9⟩,⟨n10,n11,n12⟩,⟨n13,n14⟩,n15,n16⟩:=h.nes
 have hS : ∀ k,k ≠ b -> k ≠ g -> ¬ rdS b g k:=fun k h1 h2 e => by rcases e with e | e <;> contradiction
 have hp:=hS p n1 n2
 refine ⟨hr,hok,f.cell h.c0 hp,f.cell h.c1 hp,f.cell h.c2 hp,f.cell h.c3 hp,f.cell h.c4 hp,f.cell h.c5 hp,f.cell h.c6 hp,fun o => (World.frozen?_of_block (a:=⟨p,o,none⟩) (f.block p h.up hp)).trans (h.fz o),
  f.owns h.rows (fun k e => by simp [Value.ownBlock] at e; subst e; exact hS _ (Ne.symm n7) (Ne.symm n10)),fun i hi => f.pixs (h.frs i hi) (hS _ (fun e => n9 (e ▸ h.fb_mem hi)) (fun e => n12 (e ▸ h.fb_mem hi))),f.bools h.read (hS _ (Ne.symm n8) (Ne.symm n11)),h.n1,h.n2,h.zz,h.ne,h.px,h.lo,Nat.lt_of_lt_of_le h.up f.size⟩
theorem shS_rd {p b g rg fb : Nat} {w w' : World} (f : Frm (rdS b g) w w') : Frm (shS p b g rg fb) w w':=f.mono fun _ _ e => by rcases e with e | e <;> simp [shS,e]
namespace Flm
theorem px_put (fs : FS) (i : Nat) (p : Px) (f k : Nat) : px (put fs i p) f k = px fs f k \/ px (put fs i p) f k = p:=by
 unfold px put
 simp only [List.getD_eq_getElem?_getD,List.getElem?_set]
 split
 ·rename_i h
  subst h
  split
  ·simp only [Option.getD_some,List.getElem?_set]
   split
   ·split
    ·exact .inr rfl
    ·rename_i h1 h2; subst h1; left; rw [List.getElem?_eq_none (Nat.le_of_not_lt h2)]
   ·exact .inl rfl
  ·rename_i h2
   left
   rw [List.getElem?_eq_none (Nat.le_of_not_lt h2)]
 ·exact .inl rfl
theorem put_len (fs : FS) (i : Nat) (p : Px) : (put fs i p).frs.length = fs.frs.length:=by unfold put; simp
end Flm
theorem ShAt.put (h : ShAt w B p b g lg lc rg fbs s z fs) {k : Nat} (hk : k < z * z) {q : Px} (hq : Flm.okPx q) : ShAt (((w.setCell ⟨fbs.getD (Flm.now fs) 0,k * 3,none⟩ (.int .u8 q.1)).setCell ⟨fbs.getD (Flm.now fs) 0,k * 3 + 1,none⟩ (.int .u8 q.2.1)).setCell ⟨fbs.getD (Flm.now fs) 0,k * 3 + 2,none⟩ (.int .u8 q.2.2)) B p b g lg lc rg fbs s z (Flm.put fs k q):=by
 obtain ⟨⟨n1,n2,n3,n4,n5⟩,⟨n6,n7,n8,n9⟩,⟨n10,n11,n12⟩,⟨n13,n14⟩,n15,n16⟩:=h.nes
 have hnow : Flm.now fs < fs.frs.length:=by have:=h.n2; unfold Flm.now; omega
 have hmem:=h.fb_mem hnow
 obtain ⟨fb,hfb⟩ : ∃ fb,fb = fbs.getD (Flm.now fs) 0:=⟨_,rfl⟩
 rw [<- hfb] at hmem ⊢
 have f : Frm (fun k => k = fb) w (((w.setCell ⟨fb,k * 3,none⟩ (.int .u8 q.1)).setCell ⟨fb,k * 3 + 1,none⟩ (.int .u8 q.2.1)).setCell ⟨fb,k * 3 + 2,none⟩ (.int .u8 q.2.2)) :=
  Frm.setCell (p:=⟨fb,k * 3 + 2,none⟩) (Frm.setCell (p:=⟨fb,k * 3 + 1,none⟩) (Frm.setCell (p:=⟨fb,k * 3,none⟩) (Frm.refl (fun k => k = fb) w) (.inl rfl) _) (.inl rfl) _) (.inl rfl) _
 have hp : ¬ (p = fb):=fun e => n5 (e ▸ hmem)
 have hl : (Flm.put fs k q).frs.length = fs.frs.length:=Flm.put_len fs k q
 refine ⟨h.rd.frm f (fun e => n9 (e ▸ hmem)) (fun e => n12 (e ▸ hmem)),h.ok,f.cell h.c0 hp,f.cell h.c1 hp,(f.cell h.c2 hp).trans (by rw [hl]),f.cell h.c3 hp,f.cell h.c4 hp,f.cell h.c5 hp,f.cell h.c6 hp,fun o => (World.frozen?_of_block (a:=⟨p,o,none⟩) (f.block p h.up hp)).trans (h.fz o),
  ?_,?_,f.bools h.read (fun e => n15 (e ▸ hmem)),h.n1.trans hl.symm,by rw [hl]; exact h.n2,h.zz,h.ne,?_,h.lo,Nat.lt_of_lt_of_le h.up f.size⟩
 ·rw [hl]; exact f.owns h.rows (fun k e => by simp [Value.ownBlock] at e; subst e; exact fun e => n14 (e ▸ hmem))
 ·intro i hi
  rw [hl] at hi
  by_cases he : i = Flm.now fs
  ·subst he
   have e1 : (Flm.put fs k q).frs.getD (Flm.now fs) [] = (fs.frs.getD (Flm.now fs) []).set k q:=by
    unfold Flm.put
    simp [List.getD_eq_getElem?_getD,hi]
   have:=(h.frs _ hi).store k hk q
   rw [<- hfb] at this ⊢
   rw [e1]
   exact this
  ·have e1 : (Flm.put fs k q).frs.getD i [] = fs.frs.getD i []:=by
    unfold Flm.put
    simp only [List.getD_eq_getElem?_getD,List.getElem?_set]
    rw [if_neg (fun e => he e.symm)]
   rw [e1]
   exact f.pixs (h.frs i hi) (fun e => he (h.fb_inj hi hnow (e.trans hfb)))
 ·intro i j
  rcases Flm.px_put fs k q i j with e | e <;> rw [e]
  ·exact h.px i j
  ·exact hq
theorem ShAt.see (h : ShAt w B p b g lg lc rg fbs s z fs) (k : Nat) : ShAt (w.setCell ⟨rg,k,none⟩ (.bool true)) B p b g lg lc rg fbs s z { fs with rd:=fs.rd.set k true }:=by
 obtain ⟨⟨n1,n2,n3,n4,n5⟩,⟨n6,n7,n8,n9⟩,⟨n10,n11,n12⟩,⟨n13,n14⟩,n15,n16⟩:=h.nes
 have f : Frm (fun k => k = rg) w (w.setCell ⟨rg,k,none⟩ (.bool true)):=Frm.setCell (p:=⟨rg,k,none⟩) (Frm.refl (fun k => k = rg) w) (.inl rfl) _
 exact ⟨h.rd.frm f n8 n11,h.ok,f.cell h.c0 n4,f.cell h.c1 n4,f.cell h.c2 n4,f.cell h.c3 n4,f.cell h.c4 n4,f.cell h.c5 n4,f.cell h.c6 n4,fun o => (World.frozen?_of_block (a:=⟨p,o,none⟩) (f.block p h.up n4)).trans (h.fz o),
  f.owns h.rows (fun k e => by simp [Value.ownBlock] at e; subst e; exact n13),fun i hi => f.pixs (h.frs i hi) (fun e => n15 (e ▸ h.fb_mem hi)),h.read.store k true,h.n1,h.n2,h.zz,h.ne,h.px,h.lo,Nat.lt_of_lt_of_le h.up f.size⟩
theorem ShAt.place (h : ShAt w B p b g lg lc rg fbs s z fs) (a c d : Int) : ShAt (((w.setCell ⟨p,4,none⟩ (.int .i64 a)).setCell ⟨p,5,none⟩ (.int .i64 c)).setCell ⟨p,6,none⟩ (.int .i64 d)) B p b g lg lc rg fbs s z { fs with fr:=a,x:=c,y:=d }:=by
 obtain ⟨⟨n1,n2,n3,n4,n5⟩,⟨n6,n7,n8,n9⟩,⟨n10,n11,n12⟩,⟨n13,n14⟩,n15,n16⟩:=h.nes
 have f : Frm (fun k => k = p) w (((w.setCell ⟨p,4,none⟩ (.int .i64 a)).setCell ⟨p,5,none⟩ (.int .i64 c)).setCell ⟨p,6,none⟩ (.int .i64 d)) :=
  Frm.setCell (p:=⟨p,6,none⟩) (Frm.setCell (p:=⟨p,5,none⟩) (Frm.setCell (p:=⟨p,4,none⟩) (Frm.refl (fun k => k = p) w) (.inl rfl) _) (.inl rfl) _) (.inl rfl) _
 have C : ∀ (o : Nat) (v : Value),o < 4 -> w.cell? ⟨p,o,none⟩ = some v -> (((w.setCell ⟨p,4,none⟩ (.int .i64 a)).setCell ⟨p,5,none⟩ (.int .i64 c)).setCell ⟨p,6,none⟩ (.int .i64 d)).cell? ⟨p,o,none⟩ = some v:=fun o v ho hc => cell_off (cell_off (cell_off hc (.inr (by omega))) (.inr (by omega))) (.inr (by omega))
 refine ⟨h.rd.frm f (Ne.symm n1) (Ne.symm n2),h.ok,C 0 _ (by decide) h.c0,C 1 _ (by decide) h.c1,C 2 _ (by decide) h.c2,C 3 _ (by decide) h.c3,?_,?_,?_,fun o => by rw [World.frozen?_setCell,World.frozen?_setCell,World.frozen?_setCell]; exact h.fz o,
  f.owns h.rows (fun k e => by simp [Value.ownBlock] at e; subst e; exact Ne.symm n3),fun i hi => f.pixs (h.frs i hi) (fun e => n5 (e ▸ h.fb_mem hi)),f.bools h.read (Ne.symm n4),h.n1,h.n2,h.zz,h.ne,h.px,h.lo,Nat.lt_of_lt_of_le h.up f.size⟩
 ·exact cell_off (cell_off (World.cell?_setCell_same _ _ _ h.c4) (.inr (by decide))) (.inr (by decide))
 ·exact cell_off (World.cell?_setCell_same _ _ _ (cell_off h.c5 (.inr (by decide)))) (.inr (by decide))
 ·exact World.cell?_setCell_same _ _ _ (cell_off (cell_off h.c6 (.inr (by decide))) (.inr (by decide)))
end Go.Proofs.YtekfbphnoibnjaaGreatDoor
namespace Go.Proofs.YtekfbphnoibnjaaGreatDoor
open Go.RowKit
open Flm (Px FS)
theorem spot_lt {x y z : Nat} (hx : x < z) (hy : y < z) : y * z + x < z * z:=by
 have : (y + 1) * z <= z * z:=Nat.mul_le_mul_right _ hy
 rw [Nat.succ_mul] at this
 omega
variable {w : World} {B p b g lg lc rg z : Nat} {fbs : List Nat} {s : ByteArray} {fs : FS}
theorem sh_at (h : ShAt w B p b g lg lc rg fbs s z fs) (f x y : Nat) (hf : f < fs.frs.length) (hx : x < z) (hy : y < z) :
  Calls Tryz.prog 177 #[.pointer (some ⟨p,0,none⟩),.int .i64 f,.int .i64 x,.int .i64 y] w fun e w' => e = .returned (.agg #[.int .u8 (Flm.px fs f (y * z + x)).1,.int .u8 (Flm.px fs f (y * z + x)).2.1,.int .u8 (Flm.px fs f (y * z + x)).2.2]) /\ Below w.heap.size w w':=by
 have hk:=spot_lt hx hy
 obtain ⟨k0,k1,k2⟩:=(h.frs f hf).cell (y * z + x) hk
 exact sh_at_raw w p lg _ lc _ (z * z) (z * z) z f x y _ _ _ h.c1 h.c2 (h.row hf) hf rfl _ rfl hk h.zzle k0 k1 k2
theorem sh_put (h : ShAt w B p b g lg lc rg fbs s z fs) (x y : Nat) (q : Px) (hx : x < z) (hy : y < z) (hq : Flm.okPx q) :
  Calls Tryz.prog 175 #[.pointer (some ⟨p,0,none⟩),.int .i64 x,.int .i64 y,.agg #[.int .u8 q.1,.int .u8 q.2.1,.int .u8 q.2.2]] w fun e w' => e = .returned (.tuple #[]) /\ ShAt w' B p b g lg lc rg fbs s z (Flm.put fs (y * z + x) q) /\ Frm (fun k => k = fbs.getD (Flm.now fs) 0) w w':=by
 have hk:=spot_lt hx hy
 have hnow : Flm.now fs < fs.frs.length:=by have:=h.n2; unfold Flm.now; omega
 have hnow2 : fs.frs.length = Flm.now fs + 1:=by have:=h.n2; unfold Flm.now; omega
 obtain ⟨k0,k1,k2⟩:=(h.frs _ hnow).cell (y * z + x) hk
 have c2:=h.c2
 rw [hnow2] at c2
 have fr:=(h.frs _ hnow).frozen
 refine (sh_put_raw w p lg (Flm.now fs) lc _ (z * z) (z * z) z x y q.1 q.2.1 q.2.2 _ _ _ h.c1 c2 (h.row hnow) (by have:=h.n2; omega) rfl _ rfl hk h.zzle k0 k1 k2 (fr _) (fr _) (fr _)).mono ?_
 rintro e w' ⟨rfl,rfl⟩
 have h1 : ShAt (w.alloc (.cells #[.int .u8 q.1,.int .u8 q.2.1,.int .u8 q.2.2] 50)) B p b g lg lc rg fbs s z fs:=h.below ((Below.refl _ _).alloc (Nat.le_refl _) _)
 refine ⟨rfl,(h1.put hk hq).frm (S:=fun _ => False) (Frm.refl _ _).drew (fun _ _ e => e),?_⟩
 obtain ⟨fb,hfb⟩ : ∃ fb,fb = fbs.getD (Flm.now fs) 0:=⟨_,rfl⟩
 rw [<- hfb]
 exact (Frm.setCell (p:=⟨fb,_,none⟩) (Frm.setCell (p:=⟨fb,_,none⟩) (Frm.setCell (p:=⟨fb,_,none⟩) ((Frm.refl (fun k => k = fb) w).alloc _) (.inl rfl) _) (.inl rfl) _) (.inl rfl) _).drew
set_option maxHeartbeats 1000000 in
theorem sh_near (h : ShAt w B p b g lg lc rg fbs s z fs) (x y : Int) (hx1 : x < z) (hy1 : y < z) :
  Calls Tryz.prog 172 #[.pointer (some ⟨p,0,none⟩),.int .i64 x,.int .i64 y] w fun e w' => e = .returned (.agg #[.int .i64 (Flm.near z fs x y).1,.int .i64 (Flm.near z fs x y).2.1,.int .i64 (Flm.near z fs x y).2.2]) /\ Below w.heap.size w w':=by
 have i1:=h.c1
 have i2:=h.c2
 have hpu:=h.up
 by_cases hx : x < 0
 ·have e : Flm.near z fs x y = (0,0,0):=by unfold Flm.near; rw [if_pos (.inl hx)]
  rw [e]
  clear h i2 e
  go_enter Tryz.func172,Tryz.ntmps172
  go_wp2
  refine bodyPost_ret (v:=.agg #[.int .i64 0,.int .i64 0,.int .i64 0]) (by simp [results,Tryz.results172,go_sem]) rfl ⟨rfl,?_⟩
  repeat (first | exact Below.refl _ _ | refine Below.setCell ?_ (by simp) _ | refine Below.alloc ?_ (by simp) _ | refine below_drewN ?_ _)
 by_cases hy : y < 0
 ·have e : Flm.near z fs x y = (0,0,0):=by unfold Flm.near; rw [if_pos (.inr (.inl hy))]
  rw [e]
  clear h i2 e
  go_enter Tryz.func172,Tryz.ntmps172
  go_wp2
  refine bodyPost_ret (v:=.agg #[.int .i64 0,.int .i64 0,.int .i64 0]) (by simp [results,Tryz.results172,go_sem]) rfl ⟨rfl,?_⟩
  repeat (first | exact Below.refl _ _ | refine Below.setCell ?_ (by simp) _ | refine Below.alloc ?_ (by simp) _ | refine below_drewN ?_ _)
 obtain ⟨a,rfl⟩:=Int.eq_ofNat_of_zero_le (Int.not_lt.1 hx)
 obtain ⟨c,rfl⟩:=Int.eq_ofNat_of_zero_le (Int.not_lt.1 hy)
 have hnow : Flm.now fs < fs.frs.length:=by have:=h.n2; unfold Flm.now; omega
 have hnow2 : ((fs.frs.length : Nat) : Int) - 1 = (Flm.now fs : Nat):=by have:=h.n2; unfold Flm.now; omega
 have hw : wrap64 (((fs.frs.length : Nat) : Int) - 1) = (Flm.now fs : Nat):=by rw [hnow2]; have:=h.n2; unfold wrap64 Flm.now; omega
 obtain ⟨q,hq⟩ : ∃ q,q = Flm.px fs (Flm.now fs) (c * z + a):=⟨_,rfl⟩
 have e : Flm.near z fs (a : Int) (c : Int) = (Pix.tY q.1 q.2.1 q.2.2,q.1 - q.2.2,Pix.tV q.1 q.2.1 q.2.2):=by
  unfold Flm.near
  rw [if_neg (by omega),hq]
  rfl
 have HA : Hid (∀ wx,Below w.heap.size w wx -> Calls Tryz.prog 177 #[.pointer (some ⟨p,0,none⟩),.int .i64 (Flm.now fs : Nat),.int .i64 (a : Nat),.int .i64 (c : Nat)] wx fun e w' => e = .returned (.agg #[.int .u8 q.1,.int .u8 q.2.1,.int .u8 q.2.2]) /\ Below wx.heap.size wx w'):=by
  intro wx hb
  have:=sh_at (h.below hb) (Flm.now fs) a c hnow (by omega) (by omega)
  rw [<- hq] at this
  exact this
 obtain ⟨⟨q0,q1⟩,⟨q2,q3⟩,⟨q4,q5⟩⟩ : Flm.okPx q:=by rw [hq]; exact h.px _ _
 have HT:=fun wx => refTurn q.1 q.2.1 q.2.2 wx q0 q1 q2 q3 q4 q5
 rw [e]
 have hle : ¬ ((z : Int) <= (a : Int)):=by omega
 clear h e hq hnow hnow2 q0 q1 q2 q3 q4 q5
 obtain ⟨W,hW⟩ : ∃ W,W = w.alloc (.cells #[.int .i64 0,.int .i64 0,.int .i64 0] 48):=⟨_,rfl⟩
 have hh : W.heap[w.heap.size]? = some (.cells #[.int .i64 0,.int .i64 0,.int .i64 0] 48):=by rw [hW]; show (w.heap.push _)[w.heap.size]? = _; simp
 have hB : Below w.heap.size w W:=by rw [hW]; exact (Below.refl _ _).alloc (Nat.le_refl _) _
 have hoW : w.heap.size < W.heap.size:=by rw [hW]; simp
 have HW : Hid (W = w.alloc (.cells #[.int .i64 0,.int .i64 0,.int .i64 0] 48)):=hW
 have HH : Hid (∀ w2,Below W.heap.size W w2 -> w2.heap[w.heap.size]? = some (.cells #[.int .i64 0,.int .i64 0,.int .i64 0] 48)):=fun w2 b2 => (b2.block _ hoW).trans hh
 have HB : Hid (Below w.heap.size w W):=hB
 have j1:=(hB.cell (p:=⟨p,1,none⟩) hpu).trans i1
 have j2:=(hB.cell (p:=⟨p,2,none⟩) hpu).trans i2
 obtain ⟨o,ho⟩ : ∃ o,o = w.heap.size:=⟨_,rfl⟩
 have HO : Hid (o = w.heap.size):=ho
 rw [<- ho] at HH
 clear hW hh hB hoW ho i1 i2
 go_enter Tryz.func172,Tryz.ntmps172
 go_wp2_with (first
  | (rw [<- HW.out,<- HO.out])
  | (go_at_call 177; refine (HA.out _ HB.out).mono ?_; rintro e w1 ⟨rfl,b1⟩)
  | (go_at_call 54; refine (HT _).mono ?_; rintro e w2 ⟨rfl,b2⟩; have hg:=HH.out w2 (b1.trans (b2.mono b1.size)); have s0:=cell_of_row w2 o 0 _ _ _ hg; have s1:=cell_of_row w2 o 1 _ _ _ hg; have s2:=cell_of_row w2 o 2 _ _ _ hg; have z0:=frozen_of_row w2 o 0 _ _ hg; have z1:=frozen_of_row w2 o 1 _ _ hg; have z2:=frozen_of_row w2 o 2 _ _ hg; simp at s0 s1 s2))
 refine bodyPost_ret (v:=.agg #[.int .i64 (Pix.tY q.1 q.2.1 q.2.2),.int .i64 (q.1 - q.2.2),.int .i64 (Pix.tV q.1 q.2.1 q.2.2)]) (by simp [results,Tryz.results172,go_sem,s0,s1,s2]) rfl ⟨rfl,?_⟩
 have hb2 : Below w.heap.size w w2:=HB.out.trans ((b1.trans (b2.mono b1.size)).mono HB.out.size)
 have hoe:=HO.out
 repeat (first | exact hb2 | refine Below.setCell ?_ (by simp only; omega) _ | refine below_drewN ?_ _)
end Go.Proofs.YtekfbphnoibnjaaGreatDoor
namespace Go.Proofs.YtekfbphnoibnjaaGreatDoor
namespace Flm
theorem drop_rows {α : Type} (f : Nat -> Nat -> α) (n : Nat) : ∀ (l : List Nat) (j : Nat) (hj : j < l.length) (i : Nat) (_ : i < n),(l.flatMap fun a => (List.range n).map fun b => f a b).drop (j * n + i) = f l[j] i :: (l.flatMap fun a => (List.range n).map fun b => f a b).drop (j * n + i + 1)
 | [],j,hj,_,_ => by simp at hj
 | a :: l,0,_,i,hi => by
  have hl : ((List.range n).map fun b => f a b).length = n:=by simp
  rw [List.flatMap_cons,Nat.zero_mul,Nat.zero_add,List.drop_append_of_le_length (by omega),List.drop_append_of_le_length (by omega),List.drop_eq_getElem_cons (by omega)]
  simp
 | a :: l,j + 1,hj,i,hi => by
  have hl : ((List.range n).map fun b => f a b).length = n:=by simp
  have ih:=drop_rows f n l j (by simpa using hj) i hi
  have e : (j + 1) * n + i = n + (j * n + i):=by rw [Nat.succ_mul]; omega
  have key : ∀ m,(((List.range n).map fun b => f a b) ++ l.flatMap fun a => (List.range n).map fun b => f a b).drop (n + m) = (l.flatMap fun a => (List.range n).map fun b => f a b).drop m:=fun m => by
   rw [<- List.drop_drop]
   congr 1
   exact List.drop_left' hl
  rw [List.flatMap_cons,e,key,ih,show n + (j * n + i) + 1 = n + (j * n + i + 1) by omega,key]
  rfl
def left (x y n j i : Nat) : List (Nat × Nat):=(spots x y n).drop (j * n + i)
theorem left_zero (x y n : Nat) : left x y n 0 0 = spots x y n:=by unfold left; simp
theorem left_row (x y n j : Nat) : left x y n j n = left x y n (j + 1) 0:=by unfold left; rw [Nat.succ_mul]; rfl
theorem left_cons (x y n j i : Nat) (hj : j < n) (hi : i < n) : left x y n j i = (x + i,y + j) :: left x y n j (i + 1):=by
 unfold left spots
 rw [drop_rows (fun j i => (x + i,y + j)) n (List.range n) j (by simpa using hj) i hi]
 simp [Nat.add_assoc]
theorem spots_len (x y n : Nat) : (spots x y n).length = n * n:=by
 unfold spots
 rw [List.length_flatMap]
 simp only [List.length_map,List.length_range]
 rw [List.map_const',List.sum_replicate_nat,List.length_range]
theorem left_end (x y n : Nat) : left x y n n 0 = []:=by
 unfold left
 exact List.drop_eq_nil_of_le (by rw [spots_len]; omega)
theorem mem_spots {x y n : Nat} {q : Nat × Nat} : q ∈ spots x y n ↔ ∃ j i,j < n /\ i < n /\ q = (x + i,y + j):=by
 unfold spots
 simp only [List.mem_flatMap,List.mem_range,List.mem_map]
 constructor
 ·rintro ⟨j,hj,i,hi,rfl⟩; exact ⟨j,i,hj,hi,rfl⟩
 ·rintro ⟨j,i,hj,hi,rfl⟩; exact ⟨j,hj,i,hi,rfl⟩
def pick (q : Px) (k : Nat) : Int:=if k = 0 then q.1 else if k = 1 then q.2.1 else q.2.2
theorem turn_bd {p : Px} (h : okPx p) (k : Nat) : -255 <= pick (turn p) k /\ pick (turn p) k <= 255:=by
 obtain ⟨⟨a,b⟩,⟨c,d⟩,⟨e,f⟩⟩:=h
 have:=Pix.tbounds p.1 p.2.1 p.2.2 a b c d e f
 unfold pick turn
 split
 ·dsimp only; omega
 ·split
  ·dsimp only; omega
  ·dsimp only; omega
theorem near_bd {z : Nat} {fs : FS} (h : ∀ i k,okPx (px fs i k)) (x y : Int) (k : Nat) : -255 <= pick (near z fs x y) k /\ pick (near z fs x y) k <= 255:=by
 unfold near
 split
 ·unfold pick; split
  ·decide
  ·split <;> decide
 ·exact turn_bd (h _ _) k
def rAt (s : ByteArray) (r : RS) : Nat -> RS
 | 0 => r
 | k + 1 => (Rdr.number s (rAt s r k) (100 + 24 * k)).2
def sAt (s : ByteArray) (r : RS) (k : Nat) : Int:=Rdr.signed s (rAt s r k) (100 + 24 * k)
theorem rAt_ok {s : ByteArray} {r : RS} (h : Rdr.Ok s r) : ∀ k,k <= 3 -> Rdr.Ok s (rAt s r k)
 | 0,_ => h
 | k + 1,hk => Rdr.number_ok (rAt_ok h k (by omega)) (by omega)
def cOf (s : ByteArray) (z : Nat) (fs : FS) (i j : Nat) (k : Nat) : Int:=expected (pick (near z fs ((i : Int) - 1) j) k) (pick (near z fs i ((j : Int) - 1)) k) (pick (near z fs ((i : Int) - 1) ((j : Int) - 1)) k) + sAt s fs.r k
theorem soft1_eq (s : ByteArray) (z : Nat) (fs : FS) (i j : Nat) : soft1 s z fs i j = ({ fs with r:=if (back (cOf s z fs i j 0,cOf s z fs i j 1,cOf s z fs i j 2)).2 = 0 then rAt s fs.r 3 else Rdr.fail (rAt s fs.r 3) (back (cOf s z fs i j 0,cOf s z fs i j 1,cOf s z fs i j 2)).2 },(back (cOf s z fs i j 0,cOf s z fs i j 1,cOf s z fs i j 2)).1):=rfl
end Flm
end Go.Proofs.YtekfbphnoibnjaaGreatDoor
