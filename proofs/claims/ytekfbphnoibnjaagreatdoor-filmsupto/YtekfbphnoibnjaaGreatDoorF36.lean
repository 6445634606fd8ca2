/-
  The program's reader of films: the bytes ahead of the line. The program's Stretch: what it answers is the plain reader's. The program's reader of films: a film's bytes.
-/
import Derived.Test.YtekfbphnoibnjaaGreatDoorF24
import Derived.Test.YtekfbphnoibnjaaGreatDoorF09
import Derived.Test.YtekfbphnoibnjaaGreatDoorF33
import Derived.Test.YtekfbphnoibnjaaGreatDoorF18
import Derived.Laws.BytesArg
namespace Go.Proofs.YtekfbphnoibnjaaGreatDoor
open Go.RowKit
open Flm (Px FS)
set_option maxHeartbeats 1000000 in
set_option maxRecDepth 20000 in
theorem pHead_short (w : World) (s : ByteArray) (ea : Addr) (k4 : w.cell? ⟨0, 0, none⟩ = some (.iface 278 (.pointer (some ea)))) (h : s.size < 4) :
  Calls Tryz.prog 44 #[.string s] w fun e w' => e = .returned (.tuple #[.int .i64 0, .int .i64 0, .iface 278 (.pointer (some ea))]) /\ Below w.heap.size w w' := by
 have hmx : Tryz.prog.follows .mixedOrders = true := by kernel_rfl
 have h' : (s.size : Int) < 4 := by omega
 go_enter Tryz.func44, Tryz.ntmps44
 go_wp2
 refine region_calm (S := fun w' => w'.cell? ⟨0, 0, none⟩ = some (.iface 278 (.pointer (some ea)))) 4 #[false,false,false,false] rfl rfl hmx ?_
 have hSw.drew : w.drew.cell? ⟨0, 0, none⟩ = some (.iface 278 (.pointer (some ea))) := k4
 refine tk_at 0 13 (.iface 278 (.pointer (some ea))) #[true,false,false,false] rfl rfl rfl (by kernel_rfl) (by rfl) (by rintro w t0; go_simp) (by assumption) ?_
 simp only [sIb, sCs, sCz]
 refine tk_at 1 2 (.int .i64 0) #[true,true,false,false] rfl rfl rfl (by kernel_rfl) (by rfl) (by rintro w t0; go_simp) (by assumption) ?_
 simp only [sIb, sCs, sCz]
 refine tk_at 2 3 (.int .i64 0) #[true,true,true,false] rfl rfl rfl (by kernel_rfl) (by rfl) (by rintro w t0; go_simp) (by assumption) ?_
 simp only [sIb, sCs, sCz]
 refine tk_at 3 4 (.iface 278 (.pointer (some ea))) #[true,true,true,true] rfl rfl rfl (by kernel_rfl) (by rfl) (by rintro w t0; go_simp) (by assumption) ?_
 simp only [sIb, sCs, sCz]
 refine wpAnyH_done (by kernel_rfl) ?_ _
 dsimp only [calmPost]
 go_wp2_with fail
 refine bodyPost_ret (v := .tuple #[.int .i64 0, .int .i64 0, .iface 278 (.pointer (some ea))]) (by simp [results, Tryz.results44, go_sem]) rfl ?_
 exact ⟨rfl, below_drewN (Below.refl _ w) 1⟩
set_option maxHeartbeats 1000000 in
set_option maxRecDepth 20000 in
theorem pHead_marks (w : World) (s : ByteArray) (ea : Addr) (k4 : w.cell? ⟨0, 0, none⟩ = some (.iface 278 (.pointer (some ea)))) (h : 4 <= s.size) (t : ByteArray) (ht : s.extract 0 2 = t) (hm : ¬ t.toList = [70, 66]) :
  Calls Tryz.prog 44 #[.string s] w fun e w' => e = .returned (.tuple #[.int .i64 0, .int .i64 0, .iface 278 (.pointer (some ea))]) /\ Below w.heap.size w w' := by
 have hmx : Tryz.prog.follows .mixedOrders = true := by kernel_rfl
 have h' : ¬ ((s.size : Int) < 4) := by omega
 have h2 : (2 : Int) <= (s.size : Int) := by omega
 have h2n : 2 <= s.size := by omega
 have h2s : (2 : Int) < (s.size : Int) := by omega
 have h3s : (3 : Int) < (s.size : Int) := by omega
 have hm2 : (t.toList == [70, 66]) = false := by simpa using hm
 go_enter Tryz.func44, Tryz.ntmps44
 go_wp2
 refine region_calm (S := fun w' => w'.cell? ⟨0, 0, none⟩ = some (.iface 278 (.pointer (some ea)))) 4 #[false,false,false,false] rfl rfl hmx ?_
 have hSw.drew : w.drew.cell? ⟨0, 0, none⟩ = some (.iface 278 (.pointer (some ea))) := k4
 refine tk_at 0 13 (.iface 278 (.pointer (some ea))) #[true,false,false,false] rfl rfl rfl (by kernel_rfl) (by rfl) (by rintro w t0; go_simp) (by assumption) ?_
 simp only [sIb, sCs, sCz]
 refine tk_at 1 2 (.int .i64 0) #[true,true,false,false] rfl rfl rfl (by kernel_rfl) (by rfl) (by rintro w t0; go_simp) (by assumption) ?_
 simp only [sIb, sCs, sCz]
 refine tk_at 2 3 (.int .i64 0) #[true,true,true,false] rfl rfl rfl (by kernel_rfl) (by rfl) (by rintro w t0; go_simp) (by assumption) ?_
 simp only [sIb, sCs, sCz]
 refine tk_at 3 4 (.iface 278 (.pointer (some ea))) #[true,true,true,true] rfl rfl rfl (by kernel_rfl) (by rfl) (by rintro w t0; go_simp) (by assumption) ?_
 simp only [sIb, sCs, sCz]
 refine wpAnyH_done (by kernel_rfl) ?_ _
 dsimp only [calmPost]
 go_wp2_with fail
 refine bodyPost_ret (v := .tuple #[.int .i64 0, .int .i64 0, .iface 278 (.pointer (some ea))]) (by simp [results, Tryz.results44, go_sem]) rfl ?_
 exact ⟨rfl, below_drewN (Below.refl _ w) 1⟩
set_option maxHeartbeats 1000000 in
set_option maxRecDepth 20000 in
theorem pHead_size (w : World) (s : ByteArray) (ea : Addr) (k4 : w.cell? ⟨0, 0, none⟩ = some (.iface 278 (.pointer (some ea)))) (h : 4 <= s.size) (ht : (s.extract 0 2).toList = [70, 66]) (Z N : Nat) (hZ : ((s[2]'(by omega)).toNat : Int) = Z) (hN : ((s[3]'(by omega)).toNat : Int) = N) (hz : ¬ (Z = 4 \/ Z = 8 \/ Z = 16)) :
  Calls Tryz.prog 44 #[.string s] w fun e w' => e = .returned (.tuple #[.int .i64 0, .int .i64 0, .iface 278 (.pointer (some ea))]) /\ Below w.heap.size w w' := by
 have hmx : Tryz.prog.follows .mixedOrders = true := by kernel_rfl
 have h' : ¬ ((s.size : Int) < 4) := by omega
 have h2 : (2 : Int) <= (s.size : Int) := by omega
 have h2n : 2 <= s.size := by omega
 have h2s : (2 : Int) < (s.size : Int) := by omega
 have h3s : (3 : Int) < (s.size : Int) := by omega
 have hm2 : ((s.extract 0 2).toList == [70, 66]) = true := by rw [ht]; rfl
 obtain ⟨t, hte⟩ : ∃ t, s.extract 0 2 = t := ⟨_, rfl⟩
 rw [hte] at hm2 ht
 have hZ8 : (Z : Int) < 256 := by rw [<- hZ]; have := (s[2]'(by omega)).toNat_lt; omega
 have hN8 : (N : Int) < 256 := by rw [<- hN]; have := (s[3]'(by omega)).toNat_lt; omega
 have hwZ : IntKind.i64.wrap (Z : Int) = (Z : Int) := by rw [IntKind.wrap_i64]; omega
 have hwN : IntKind.i64.wrap (N : Int) = (N : Int) := by rw [IntKind.wrap_i64]; omega
 have HIS : Hid (∀ wx, Calls Tryz.prog 38 #[.int .i64 Z] wx fun e w' => e = .returned (.bool false) /\ w' = wx) := fun wx => pIsSize wx Z false (by simp [hz])
 clear hz
 go_enter Tryz.func44, Tryz.ntmps44
 go_wp2
 refine region_calm (S := fun w' => w'.cell? ⟨0, 0, none⟩ = some (.iface 278 (.pointer (some ea)))) 8 #[false,false,false,false,false,false,false,false] rfl rfl hmx ?_
 have hS0 : w.drew.cell? ⟨0, 0, none⟩ = some (.iface 278 (.pointer (some ea))) := k4
 refine tk_at 0 14 (.string s) #[true,false,false,false,false,false,false,false] rfl rfl rfl (by kernel_rfl) (by rfl) (by rintro w t0; go_simp) (by assumption) ?_
 simp only [sIb, sCs, sCz]
 refine tk_at 1 15 (.int .u8 Z) #[true,true,false,false,false,false,false,false] rfl rfl rfl (by kernel_rfl) (by rfl) (by rintro w t0; go_simp) (by assumption) ?_
 simp only [sIb, sCs, sCz]
 refine tk_at 2 16 (.int .i64 Z) #[true,true,true,false,false,false,false,false] rfl rfl rfl (by kernel_rfl) (by rfl) (by rintro w t0; go_simp) (by assumption) ?_
 simp only [sIb, sCs, sCz]
 refine tk_at 3 17 (.string s) #[true,true,true,true,false,false,false,false] rfl rfl rfl (by kernel_rfl) (by rfl) (by rintro w t0; go_simp) (by assumption) ?_
 simp only [sIb, sCs, sCz]
 refine tk_at 4 18 (.int .u8 N) #[true,true,true,true,true,false,false,false] rfl rfl rfl (by kernel_rfl) (by rfl) (by rintro w t0; go_simp) (by assumption) ?_
 simp only [sIb, sCs, sCz]
 refine tk_at 5 19 (.int .i64 N) #[true,true,true,true,true,true,false,false] rfl rfl rfl (by kernel_rfl) (by rfl) (by rintro w t0; go_simp) (by assumption) ?_
 simp only [sIb, sCs, sCz]
 refine tk_at 6 2 (.int .i64 Z) #[true,true,true,true,true,true,true,false] rfl rfl rfl (by kernel_rfl) (by rfl) (by rintro w t0; go_simp) (by assumption) ?_
 simp only [sIb, sCs, sCz]
 refine tk_at 7 3 (.int .i64 N) #[true,true,true,true,true,true,true,true] rfl rfl rfl (by kernel_rfl) (by rfl) (by rintro w t0; go_simp) (by assumption) ?_
 simp only [sIb, sCs, sCz]
 refine wpAnyH_done (by kernel_rfl) ?_ _
 dsimp only [calmPost]
 go_wp2_with (go_at_call 38; refine (HIS.out _).mono ?_; rintro e w1 ⟨rfl, rfl⟩)
 refine region_calm (S := fun w' => w'.cell? ⟨0, 0, none⟩ = some (.iface 278 (.pointer (some ea)))) 4 #[false,false,false,false] rfl rfl hmx ?_
 have hSw.drew.drew : w.drew.drew.cell? ⟨0, 0, none⟩ = some (.iface 278 (.pointer (some ea))) := k4
 refine tk_at 0 27 (.iface 278 (.pointer (some ea))) #[true,false,false,false] rfl rfl rfl (by kernel_rfl) (by rfl) (by rintro w t0; go_simp) (by assumption) ?_
 simp only [sIb, sCs, sCz]
 refine tk_at 1 2 (.int .i64 0) #[true,true,false,false] rfl rfl rfl (by kernel_rfl) (by rfl) (by rintro w t0; go_simp) (by assumption) ?_
 simp only [sIb, sCs, sCz]
 refine tk_at 2 3 (.int .i64 0) #[true,true,true,false] rfl rfl rfl (by kernel_rfl) (by rfl) (by rintro w t0; go_simp) (by assumption) ?_
 simp only [sIb, sCs, sCz]
 refine tk_at 3 4 (.iface 278 (.pointer (some ea))) #[true,true,true,true] rfl rfl rfl (by kernel_rfl) (by rfl) (by rintro w t0; go_simp) (by assumption) ?_
 simp only [sIb, sCs, sCz]
 refine wpAnyH_done (by kernel_rfl) ?_ _
 dsimp only [calmPost]
 go_wp2_with fail
 refine bodyPost_ret (v := .tuple #[.int .i64 0, .int .i64 0, .iface 278 (.pointer (some ea))]) (by simp [results, Tryz.results44, go_sem]) rfl ?_
 exact ⟨rfl, below_drewN (Below.refl _ w) 2⟩
set_option maxHeartbeats 1000000 in
set_option maxRecDepth 20000 in
theorem pHead_frames (w : World) (s : ByteArray) (ea : Addr) (k4 : w.cell? ⟨0, 0, none⟩ = some (.iface 278 (.pointer (some ea)))) (h : 4 <= s.size) (ht : (s.extract 0 2).toList = [70, 66]) (Z N : Nat) (hZ : ((s[2]'(by omega)).toNat : Int) = Z) (hN : ((s[3]'(by omega)).toNat : Int) = N) (hz : Z = 4 \/ Z = 8 \/ Z = 16) (hn : 8 < N) :
  Calls Tryz.prog 44 #[.string s] w fun e w' => e = .returned (.tuple #[.int .i64 0, .int .i64 0, .iface 278 (.pointer (some ea))]) /\ Below w.heap.size w w' := by
 have hmx : Tryz.prog.follows .mixedOrders = true := by kernel_rfl
 have h' : ¬ ((s.size : Int) < 4) := by omega
 have h2 : (2 : Int) <= (s.size : Int) := by omega
 have h2n : 2 <= s.size := by omega
 have h2s : (2 : Int) < (s.size : Int) := by omega
 have h3s : (3 : Int) < (s.size : Int) := by omega
 have hm2 : ((s.extract 0 2).toList == [70, 66]) = true := by rw [ht]; rfl
 obtain ⟨t, hte⟩ : ∃ t, s.extract 0 2 = t := ⟨_, rfl⟩
 rw [hte] at hm2 ht
 have hZ8 : (Z : Int) < 256 := by rw [<- hZ]; have := (s[2]'(by omega)).toNat_lt; omega
 have hN8 : (N : Int) < 256 := by rw [<- hN]; have := (s[3]'(by omega)).toNat_lt; omega
 have hwZ : IntKind.i64.wrap (Z : Int) = (Z : Int) := by rw [IntKind.wrap_i64]; omega
 have hwN : IntKind.i64.wrap (N : Int) = (N : Int) := by rw [IntKind.wrap_i64]; omega
 have HIS : Hid (∀ wx, Calls Tryz.prog 38 #[.int .i64 Z] wx fun e w' => e = .returned (.bool true) /\ w' = wx) := fun wx => pIsSize wx Z true (by simp [hz])
 have hn' : (8 : Int) < (N : Int) := by omega
 clear hz
 go_enter Tryz.func44, Tryz.ntmps44
 go_wp2
 refine region_calm (S := fun w' => w'.cell? ⟨0, 0, none⟩ = some (.iface 278 (.pointer (some ea)))) 8 #[false,false,false,false,false,false,false,false] rfl rfl hmx ?_
 have hS0 : w.drew.cell? ⟨0, 0, none⟩ = some (.iface 278 (.pointer (some ea))) := k4
 refine tk_at 0 14 (.string s) #[true,false,false,false,false,false,false,false] rfl rfl rfl (by kernel_rfl) (by rfl) (by rintro w t0; go_simp) (by assumption) ?_
 simp only [sIb, sCs, sCz]
 refine tk_at 1 15 (.int .u8 Z) #[true,true,false,false,false,false,false,false] rfl rfl rfl (by kernel_rfl) (by rfl) (by rintro w t0; go_simp) (by assumption) ?_
 simp only [sIb, sCs, sCz]
 refine tk_at 2 16 (.int .i64 Z) #[true,true,true,false,false,false,false,false] rfl rfl rfl (by kernel_rfl) (by rfl) (by rintro w t0; go_simp) (by assumption) ?_
 simp only [sIb, sCs, sCz]
 refine tk_at 3 17 (.string s) #[true,true,true,true,false,false,false,false] rfl rfl rfl (by kernel_rfl) (by rfl) (by rintro w t0; go_simp) (by assumption) ?_
 simp only [sIb, sCs, sCz]
 refine tk_at 4 18 (.int .u8 N) #[true,true,true,true,true,false,false,false] rfl rfl rfl (by kernel_rfl) (by rfl) (by rintro w t0; go_simp) (by assumption) ?_
 simp only [sIb, sCs, sCz]
 refine tk_at 5 19 (.int .i64 N) #[true,true,true,true,true,true,false,false] rfl rfl rfl (by kernel_rfl) (by rfl) (by rintro w t0; go_simp) (by assumption) ?_
 simp only [sIb, sCs, sCz]
 refine tk_at 6 2 (.int .i64 Z) #[true,true,true,true,true,true,true,false] rfl rfl rfl (by kernel_rfl) (by rfl) (by rintro w t0; go_simp) (by assumption) ?_
 simp only [sIb, sCs, sCz]
 refine tk_at 7 3 (.int .i64 N) #[true,true,true,true,true,true,true,true] rfl rfl rfl (by kernel_rfl) (by rfl) (by rintro w t0; go_simp) (by assumption) ?_
 simp only [sIb, sCs, sCz]
 refine wpAnyH_done (by kernel_rfl) ?_ _
 dsimp only [calmPost]
 go_wp2_with (go_at_call 38; refine (HIS.out _).mono ?_; rintro e w1 ⟨rfl, rfl⟩)
 refine region_calm (S := fun w' => w'.cell? ⟨0, 0, none⟩ = some (.iface 278 (.pointer (some ea)))) 4 #[false,false,false,false] rfl rfl hmx ?_
 have hSw.drew.drew : w.drew.drew.cell? ⟨0, 0, none⟩ = some (.iface 278 (.pointer (some ea))) := k4
 refine tk_at 0 27 (.iface 278 (.pointer (some ea))) #[true,false,false,false] rfl rfl rfl (by kernel_rfl) (by rfl) (by rintro w t0; go_simp) (by assumption) ?_
 simp only [sIb, sCs, sCz]
 refine tk_at 1 2 (.int .i64 0) #[true,true,false,false] rfl rfl rfl (by kernel_rfl) (by rfl) (by rintro w t0; go_simp) (by assumption) ?_
 simp only [sIb, sCs, sCz]
 refine tk_at 2 3 (.int .i64 0) #[true,true,true,false] rfl rfl rfl (by kernel_rfl) (by rfl) (by rintro w t0; go_simp) (by assumption) ?_
 simp only [sIb, sCs, sCz]
 refine tk_at 3 4 (.iface 278 (.pointer (some ea))) #[true,true,true,true] rfl rfl rfl (by kernel_rfl) (by rfl) (by rintro w t0; go_simp) (by assumption) ?_
 simp only [sIb, sCs, sCz]
 refine wpAnyH_done (by kernel_rfl) ?_ _
 dsimp only [calmPost]
 go_wp2_with fail
 refine bodyPost_ret (v := .tuple #[.int .i64 0, .int .i64 0, .iface 278 (.pointer (some ea))]) (by simp [results, Tryz.results44, go_sem]) rfl ?_
 exact ⟨rfl, below_drewN (Below.refl _ w) 2⟩
set_option maxHeartbeats 1000000 in
set_option maxRecDepth 20000 in
theorem pHead_good (w : World) (s : ByteArray) (h : 4 <= s.size) (ht : (s.extract 0 2).toList = [70, 66]) (Z N : Nat) (hZ : ((s[2]'(by omega)).toNat : Int) = Z) (hN : ((s[3]'(by omega)).toNat : Int) = N) (hz : Z = 4 \/ Z = 8 \/ Z = 16) (hn : N <= 8) :
  Calls Tryz.prog 44 #[.string s] w fun e w' => e = .returned (.tuple #[.int .i64 Z, .int .i64 N, .nilIface]) /\ Below w.heap.size w w' := by
 have hmx : Tryz.prog.follows .mixedOrders = true := by kernel_rfl
 have h' : ¬ ((s.size : Int) < 4) := by omega
 have h2 : (2 : Int) <= (s.size : Int) := by omega
 have h2n : 2 <= s.size := by omega
 have h2s : (2 : Int) < (s.size : Int) := by omega
 have h3s : (3 : Int) < (s.size : Int) := by omega
 have hm2 : ((s.extract 0 2).toList == [70, 66]) = true := by rw [ht]; rfl
 obtain ⟨t, hte⟩ : ∃ t, s.extract 0 2 = t := ⟨_, rfl⟩
 rw [hte] at hm2 ht
 have hZ8 : (Z : Int) < 256 := by rw [<- hZ]; have := (s[2]'(by omega)).toNat_lt; omega
 have hN8 : (N : Int) < 256 := by rw [<- hN]; have := (s[3]'(by omega)).toNat_lt; omega
 have hwZ : IntKind.i64.wrap (Z : Int) = (Z : Int) := by rw [IntKind.wrap_i64]; omega
 have hwN : IntKind.i64.wrap (N : Int) = (N : Int) := by rw [IntKind.wrap_i64]; omega
 have HIS : Hid (∀ wx, Calls Tryz.prog 38 #[.int .i64 Z] wx fun e w' => e = .returned (.bool true) /\ w' = wx) := fun wx => pIsSize wx Z true (by simp [hz])
 have hn' : ¬ ((8 : Int) < (N : Int)) := by omega
 clear hz
 go_enter Tryz.func44, Tryz.ntmps44
 go_wp2
 refine region_calm (S := fun w' => True) 8 #[false,false,false,false,false,false,false,false] rfl rfl hmx ?_
 have hS0 : True := trivial
 refine tk_at 0 14 (.string s) #[true,false,false,false,false,false,false,false] rfl rfl rfl (by kernel_rfl) (by rfl) (by rintro w t0; go_simp) (by assumption) ?_
 simp only [sIb, sCs, sCz]
 refine tk_at 1 15 (.int .u8 Z) #[true,true,false,false,false,false,false,false] rfl rfl rfl (by kernel_rfl) (by rfl) (by rintro w t0; go_simp) (by assumption) ?_
 simp only [sIb, sCs, sCz]
 refine tk_at 2 16 (.int .i64 Z) #[true,true,true,false,false,false,false,false] rfl rfl rfl (by kernel_rfl) (by rfl) (by rintro w t0; go_simp) (by assumption) ?_
 simp only [sIb, sCs, sCz]
 refine tk_at 3 17 (.string s) #[true,true,true,true,false,false,false,false] rfl rfl rfl (by kernel_rfl) (by rfl) (by rintro w t0; go_simp) (by assumption) ?_
 simp only [sIb, sCs, sCz]
 refine tk_at 4 18 (.int .u8 N) #[true,true,true,true,true,false,false,false] rfl rfl rfl (by kernel_rfl) (by rfl) (by rintro w t0; go_simp) (by assumption) ?_
 simp only [sIb, sCs, sCz]
 refine tk_at 5 19 (.int .i64 N) #[true,true,true,true,true,true,false,false] rfl rfl rfl (by kernel_rfl) (by rfl) (by rintro w t0; go_simp) (by assumption) ?_
 simp only [sIb, sCs, sCz]
 refine tk_at 6 2 (.int .i64 Z) #[true,true,true,true,true,true,true,false] rfl rfl rfl (by kernel_rfl) (by rfl) (by rintro w t0; go_simp) (by assumption) ?_
 simp only [sIb, sCs, sCz]
 refine tk_at 7 3 (.int .i64 N) #[true,true,true,true,true,true,true,true] rfl rfl rfl (by kernel_rfl) (by rfl) (by rintro w t0; go_simp) (by assumption) ?_
 simp only [sIb, sCs, sCz]
 refine wpAnyH_done (by kernel_rfl) ?_ _
 dsimp only [calmPost]
 go_wp2_with (go_at_call 38; refine (HIS.out _).mono ?_; rintro e w1 ⟨rfl, rfl⟩)
 refine bodyPost_ret (v := .tuple #[.int .i64 Z, .int .i64 N, .nilIface]) (by simp [results, Tryz.results44, go_sem]) rfl ?_
 exact ⟨rfl, below_drewN (Below.refl _ w) 1⟩
theorem toList_of (s : ByteArray) (h : 4 <= s.size) : (s.extract 0 2).toList = [s[0]'(by omega), s[1]'(by omega)] := by
 rw [ByteArray.toList_eq]
 apply List.ext_getElem?
 intro i
 rcases (by omega : i = 0 \/ i = 1 \/ 2 <= i) with rfl | rfl | hi
 ·rw [Array.getElem?_toList, ByteArray.data_extract, Array.getElem?_extract]
  simp [ByteArray.getElem_eq_getElem_data]
  omega
 ·rw [Array.getElem?_toList, ByteArray.data_extract, Array.getElem?_extract]
  simp [ByteArray.getElem_eq_getElem_data]
  omega
 ·rw [List.getElem?_eq_none (by simp; omega), List.getElem?_eq_none (by simp; omega)]
theorem marks_iff (s : ByteArray) (h : 4 <= s.size) : (s.extract 0 2).toList = [70, 66] ↔ Rdr.byteAt s 0 = 70 /\ Rdr.byteAt s 1 = 66 := by
 have key : ∀ (u : UInt8) (n : Nat), n < 256 -> (u = UInt8.ofNat n ↔ ((u.toNat : Nat) : Int) = n) := fun u n hn => by
  constructor
  ·rintro rfl; simp; omega
  ·intro hu
   apply UInt8.toNat_inj.1
   simp; omega
 rw [toList_of s h, byteAt_get s 0 (by omega), byteAt_get s 1 (by omega)]
 constructor
 ·intro e
  simp only [List.cons.injEq, and_true] at e
  exact ⟨(key _ 70 (by decide)).1 e.1, (key _ 66 (by decide)).1 e.2⟩
 ·rintro ⟨e0, e1⟩
  simp only [List.cons.injEq, and_true]
  exact ⟨(key _ 70 (by decide)).2 e0, (key _ 66 (by decide)).2 e1⟩
theorem pReadHead (w : World) (s : ByteArray) (A : Nat -> Addr) (E : ErrsA w A) :
  Calls Tryz.prog 44 #[.string s] w fun e w' => (HeadOk s -> e = .returned (.tuple #[.int .i64 (Rdr.byteAt s 2), .int .i64 (Rdr.byteAt s 3), .nilIface])) /\ (¬ HeadOk s -> e = .returned (.tuple #[.int .i64 0, .int .i64 0, .iface 278 (.pointer (some (A 4)))])) /\ Below w.heap.size w w' := by
 have k4 := E.v (4, 0) (by decide)
 by_cases h : s.size < 4
 ·refine (pHead_short w s (A 4) k4 h).mono ?_
  rintro e w' ⟨rfl, b⟩
  exact ⟨fun hh => absurd hh.1 (by omega), fun _ => rfl, b⟩
 ·have h4 : 4 <= s.size := by omega
  have b2 := byteAt_get s 2 (by omega)
  have b3 := byteAt_get s 3 (by omega)
  by_cases hm : (s.extract 0 2).toList = [70, 66]
  ·obtain ⟨m0, m1⟩ := (marks_iff s h4).1 hm
   by_cases hz : Rdr.byteAt s 2 = 4 \/ Rdr.byteAt s 2 = 8 \/ Rdr.byteAt s 2 = 16
   ·by_cases hn : Rdr.byteAt s 3 <= 8
    ·refine (pHead_good w s h4 hm (s[2]'(by omega)).toNat (s[3]'(by omega)).toNat rfl rfl (by omega) (by omega)).mono ?_
     rintro e w' ⟨rfl, b⟩
     exact ⟨fun _ => by rw [b2, b3], fun hh => absurd ⟨h4, m0, m1, hz, hn⟩ hh, b⟩
    ·refine (pHead_frames w s (A 4) k4 h4 hm (s[2]'(by omega)).toNat (s[3]'(by omega)).toNat rfl rfl (by omega) (by omega)).mono ?_
     rintro e w' ⟨rfl, b⟩
     exact ⟨fun hh => absurd hh.2.2.2.2 hn, fun _ => rfl, b⟩
   ·refine (pHead_size w s (A 4) k4 h4 hm (s[2]'(by omega)).toNat (s[3]'(by omega)).toNat rfl rfl (by omega)).mono ?_
    rintro e w' ⟨rfl, b⟩
    exact ⟨fun hh => absurd hh.2.2.2.1 hz, fun _ => rfl, b⟩
  ·refine (pHead_marks w s (A 4) k4 h4 _ rfl hm).mono ?_
   rintro e w' ⟨rfl, b⟩
   exact ⟨fun hh => absurd ((marks_iff s h4).2 ⟨hh.2.1, hh.2.2.1⟩) hm, fun _ => rfl, b⟩
end Go.Proofs.YtekfbphnoibnjaaGreatDoor
namespace Go.Proofs.YtekfbphnoibnjaaGreatDoor
open Go.RowKit
theorem start_err (s : ByteArray) (ch : List Int) : (Rdr.start s ch).err = 0 \/ (Rdr.start s ch).err = 5 \/ (Rdr.start s ch).err = 7 := by
 have h4 : ∀ n, (Rdr.four s (Rdr.r0 ch) n).err = 0 \/ (Rdr.four s (Rdr.r0 ch) n).err = 5 := by
  intro n
  induction n with
  | zero => exact .inl rfl
  | succ n ih =>
   rw [Rdr.four_succ]
   show (Rdr.octS s (Rdr.four s (Rdr.r0 ch) n)).err = 0 \/ (Rdr.octS s (Rdr.four s (Rdr.r0 ch) n)).err = 5
   unfold Rdr.octS
   split
   ·exact ih
   ·show (if (Rdr.four s (Rdr.r0 ch) n).err = 0 then (5 : Int) else (Rdr.four s (Rdr.r0 ch) n).err) = 0 \/ (if (Rdr.four s (Rdr.r0 ch) n).err = 0 then (5 : Int) else (Rdr.four s (Rdr.r0 ch) n).err) = 5
    rcases ih with ih | ih <;> rw [ih]
    ·exact .inr rfl
    ·exact .inr rfl
 rw [Rdr.start_eq]
 by_cases h : (Rdr.four s (Rdr.r0 ch) 4).err = 0 /\ 4294967295 <= (Rdr.four s (Rdr.r0 ch) 4).code
 ·rw [if_pos h]
  refine .inr (.inr ?_)
  unfold Rdr.fail
  show (if (Rdr.four s (Rdr.r0 ch) 4).err = 0 then (7 : Int) else (Rdr.four s (Rdr.r0 ch) 4).err) = 7
  rw [if_pos h.1]
 ·rw [if_neg h]
  rcases h4 4 with h4 | h4
  ·exact .inl h4
  ·exact .inr (.inl h4)
end Go.Proofs.YtekfbphnoibnjaaGreatDoor
namespace Go.Proofs.YtekfbphnoibnjaaGreatDoor
open Go.RowKit
open Flm (Px FS)
theorem two_set (wr : World) (G : Nat) (u0 u1 : Value) {x0 x1 : Value} (a0 : wr.cell? ⟨G, 0, none⟩ = some x0) (a1 : wr.cell? ⟨G, 1, none⟩ = some x1) (X : World) (hX : X = (wr.setCell ⟨G, 0, none⟩ u0).setCell ⟨G, 1, none⟩ u1) : X.cell? ⟨G, 0, none⟩ = some u0 /\ X.cell? ⟨G, 1, none⟩ = some u1 /\ Frm (fun k => k = G) wr X := by
 have n01 : (wr.setCell ⟨G, 0, none⟩ u0).cell? ⟨G, 1, none⟩ = some x1 := by
  rw [World.cell?_setCell_other]
  ·exact a1
  ·intro e; simp at e
 refine ⟨?_, ?_, ?_⟩
 ·rw [hX, World.cell?_setCell_other]
  ·exact World.cell?_setCell_same _ _ _ a0
  ·intro e; simp at e
 ·rw [hX]; exact World.cell?_setCell_same _ _ _ n01
 ·rw [hX]; exact Frm.setCell (p := ⟨G, 1, none⟩) (Frm.setCell (p := ⟨G, 0, none⟩) (Frm.refl (fun k => k = G) wr) (.inl rfl) _) (.inl rfl) _
set_option maxHeartbeats 1000000 in
set_option maxRecDepth 20000 in
theorem pRead_head (w : World) (s : ByteArray) (ea : Addr)
  (hh : ∀ wx, Below w.heap.size w wx -> Calls Tryz.prog 44 #[.string s] wx fun e w' => e = .returned (.tuple #[.int .i64 0, .int .i64 0, .iface 278 (.pointer (some ea))]) /\ Below wx.heap.size wx w') :
  Calls Tryz.prog 21 #[.string s] w fun e w' => e = .returned (.tuple #[.agg #[.int .i64 0, .slice none 0 0], .iface 278 (.pointer (some ea))]) /\ Below w.heap.size w w' := by
 obtain ⟨W1, hW1⟩ : ∃ W1, W1 = w.alloc (.cells #[.int .i64 0, .slice none 0 0] 27) := ⟨_, rfl⟩
 have hB1 : Below w.heap.size w W1 := by rw [hW1]; exact (Below.refl _ w).alloc (Nat.le_refl _) _
 have hr1 : W1.heap[w.heap.size]? = some (.cells #[.int .i64 0, .slice none 0 0] 27 (0, 0)) := by rw [hW1]; exact heap_alloc_last w _
 have HW1 : Hid (W1 = w.alloc (.cells #[.int .i64 0, .slice none 0 0] 27)) := hW1
 have HB : Hid (Below w.heap.size w W1) := hB1
 have hlw : w.heap.size < W1.heap.size := heap_lt hr1
 have HC : Hid (∀ w2, Below W1.heap.size W1 w2 -> w2.cell? ⟨w.heap.size, 0, none⟩ = some (.int .i64 0) /\ w2.cell? ⟨w.heap.size, 1, none⟩ = some (.slice none 0 0) /\ w2.frozen? ⟨w.heap.size, 0, none⟩ = false /\ w2.frozen? ⟨w.heap.size, 1, none⟩ = false) := fun w2 b => by
  have r2 := (b.block _ (heap_lt hr1)).trans hr1
  exact ⟨cell_of_row _ _ 0 _ _ _ r2, cell_of_row _ _ 1 _ _ _ r2, frozen_of_row _ _ 0 _ _ r2, frozen_of_row _ _ 1 _ _ r2⟩
 have HH : Hid (Calls Tryz.prog 44 #[.string s] W1 fun e w' => e = .returned (.tuple #[.int .i64 0, .int .i64 0, .iface 278 (.pointer (some ea))]) /\ Below W1.heap.size W1 w') := hh W1 hB1
 clear hh hW1 hB1 hr1
 go_enter Tryz.func21, Tryz.ntmps21
 go_wp2_with (first
  | (rw [<- HW1.out])
  | (go_at_call 44; refine HH.out.mono ?_; rintro e w2 ⟨rfl, b2⟩; obtain ⟨k0, k1, z0, z1⟩ := HC.out w2 b2))
 obtain ⟨X, hX⟩ : ∃ X, X = (w2.setCell ⟨w.heap.size, 0, none⟩ (.int .i64 0)).setCell ⟨w.heap.size, 1, none⟩ (.slice none 0 0) := ⟨_, rfl⟩
 rw [<- hX]
 obtain ⟨q0, q1, fX⟩ := two_set w2 w.heap.size _ _ k0 k1 X hX
 refine bodyPost_ret (v := .tuple #[.agg #[.int .i64 0, .slice none 0 0], .iface 278 (.pointer (some ea))]) (by simp [results, Tryz.results21, go_sem, q0, q1]) rfl ⟨rfl, ?_⟩
 exact (HB.out.trans (b2.mono HB.out.size)).trans (fX.below (by have := HB.out.size; have := b2.size; omega) (fun k e => by omega))
set_option maxHeartbeats 1000000 in
set_option maxRecDepth 20000 in
theorem pRead_start (w : World) (s t : ByteArray) (h4 : 4 <= s.size) (ht : s.extract 4 s.size = t) (Z N : Int) (ea : Addr)
  (hh : ∀ wx, Below w.heap.size w wx -> Calls Tryz.prog 44 #[.string s] wx fun e w' => e = .returned (.tuple #[.int .i64 Z, .int .i64 N, .nilIface]) /\ Below wx.heap.size wx w')
  (hn : ∀ wx, Below w.heap.size w wx -> Calls Tryz.prog 45 #[.string t] wx fun e w' => (∃ P, e = .returned (.tuple #[P, .iface 278 (.pointer (some ea))])) /\ Below wx.heap.size wx w') :
  Calls Tryz.prog 21 #[.string s] w fun e w' => e = .returned (.tuple #[.agg #[.int .i64 0, .slice none 0 0], .iface 278 (.pointer (some ea))]) /\ Below w.heap.size w w' := by
 obtain ⟨W1, hW1⟩ : ∃ W1, W1 = w.alloc (.cells #[.int .i64 0, .slice none 0 0] 27) := ⟨_, rfl⟩
 have hB1 : Below w.heap.size w W1 := by rw [hW1]; exact (Below.refl _ w).alloc (Nat.le_refl _) _
 have hr1 : W1.heap[w.heap.size]? = some (.cells #[.int .i64 0, .slice none 0 0] 27 (0, 0)) := by rw [hW1]; exact heap_alloc_last w _
 have HW1 : Hid (W1 = w.alloc (.cells #[.int .i64 0, .slice none 0 0] 27)) := hW1
 have HB : Hid (Below w.heap.size w W1) := hB1
 have hlw : w.heap.size < W1.heap.size := heap_lt hr1
 have HC : Hid (∀ w2, Below W1.heap.size W1 w2 -> w2.cell? ⟨w.heap.size, 0, none⟩ = some (.int .i64 0) /\ w2.cell? ⟨w.heap.size, 1, none⟩ = some (.slice none 0 0) /\ w2.frozen? ⟨w.heap.size, 0, none⟩ = false /\ w2.frozen? ⟨w.heap.size, 1, none⟩ = false) := fun w2 b => by
  have r2 := (b.block _ (heap_lt hr1)).trans hr1
  exact ⟨cell_of_row _ _ 0 _ _ _ r2, cell_of_row _ _ 1 _ _ _ r2, frozen_of_row _ _ 0 _ _ r2, frozen_of_row _ _ 1 _ _ r2⟩
 have HH : Hid (Calls Tryz.prog 44 #[.string s] W1 fun e w' => e = .returned (.tuple #[.int .i64 Z, .int .i64 N, .nilIface]) /\ Below W1.heap.size W1 w') := hh W1 hB1
 have HN : Hid (∀ wx, Below W1.heap.size W1 wx -> Calls Tryz.prog 45 #[.string t] wx fun e w' => (∃ P, e = .returned (.tuple #[P, .iface 278 (.pointer (some ea))])) /\ Below wx.heap.size wx w') := fun wx hb => hn wx (hB1.trans (hb.mono hB1.size))
 have h4' : (4 : Int) <= (s.size : Int) := by omega
 clear hh hn hW1 hB1 hr1
 go_enter Tryz.func21, Tryz.ntmps21
 go_wp2_with (first
  | (rw [<- HW1.out])
  | (go_at_call 44; refine HH.out.mono ?_; rintro e w2 ⟨rfl, b2⟩)
  | (go_at_call 45; refine (HN.out _ b2).mono ?_; rintro e w3 ⟨⟨P, rfl⟩, b3⟩; obtain ⟨k0, k1, z0, z1⟩ := HC.out w3 (b2.trans (b3.mono b2.size))))
 obtain ⟨X, hX⟩ : ∃ X, X = (w3.setCell ⟨w.heap.size, 0, none⟩ (.int .i64 0)).setCell ⟨w.heap.size, 1, none⟩ (.slice none 0 0) := ⟨_, rfl⟩
 rw [<- hX]
 obtain ⟨q0, q1, fX⟩ := two_set w3 w.heap.size _ _ k0 k1 X hX
 refine bodyPost_ret (v := .tuple #[.agg #[.int .i64 0, .slice none 0 0], .iface 278 (.pointer (some ea))]) (by simp [results, Tryz.results21, go_sem, q0, q1]) rfl ⟨rfl, ?_⟩
 exact ((HB.out.trans (b2.mono HB.out.size)).trans (b3.mono (by have := HB.out.size; have := b2.size; omega))).trans (fX.below (by have := HB.out.size; have := b2.size; have := b3.size; omega) (fun k e => by omega))
def ReadPost (A : Nat -> Addr) (w : World) (t : ByteArray) (z : Nat) (F : FS) (e : Ending) (w' : World) : Prop :=
 (F.r.err ≠ 0 -> e = .returned (.tuple #[.agg #[.int .i64 0, .slice none 0 0], fltV A (Flm.plc F) F.r.err])) /\
 (F.r.err = 0 -> (Rdr.finish t F.r).err ≠ 0 -> e = .returned (.tuple #[.agg #[.int .i64 0, .slice none 0 0], errA A (Rdr.finish t F.r).err])) /\
 (F.r.err = 0 -> (Rdr.finish t F.r).err = 0 -> ∃ Lv B, w.heap.size <= B /\ e = .returned (.tuple #[.agg #[.int .i64 z, Lv], .nilIface]) /\ FilmAt w' B Lv z F.frs) /\
 Below w.heap.size w w'
theorem PL.film {w w' : World} {S : Nat -> Prop} {L p b : Nat} {Dv : Value} {dbs : List Nat} {s : ByteArray} {z : Nat} {q : FS} (h : PL w L p b Dv dbs s z q) (h8 : q.frs.length <= 8) (f : Frm S w w') (hS : ∀ k, S k -> k < L) : FilmAt w' L Dv z q.frs := by
 refine ⟨dbs, f.owns h.rows (fun k e hs => ?_), h.n1, fun i hi => f.pixs (h.dn i hi) (fun hs => ?_), h.nes.2.2, fun k e => (h.nd k e).2.2, h.zz, h8, fun i k => h.px i k⟩
 ·have := (World.ownsRow.lt h.rows k e).1
  have := hS k hs
  omega
 ·have := (h.dn i hi).lt.1
  have := hS _ hs
  omega
theorem Flm.frames_on {s : ByteArray} {z n : Nat} {q : FS} (h : q.r.err = 0) : Flm.frames s z (n + 1) q = Flm.frames s z n (Flm.area s z (Flm.cuts z) 0 0 z (Flm.begin z q)) := by
 conv => lhs; unfold Flm.frames
 rw [if_pos h]
 rfl
theorem Flm.frames_off {s : ByteArray} {z : Nat} {q : FS} (h : q.r.err ≠ 0) : ∀ n, Flm.frames s z n q = q
 | 0 => rfl
 | n + 1 => by unfold Flm.frames; rw [if_neg h]
theorem finish_err (t : ByteArray) (r : RS) (h : r.err = 0) : (Rdr.finish t r).err = 0 \/ (Rdr.finish t r).err = 6 := by
 unfold Rdr.finish
 split
 ·exact .inr rfl
 ·exact .inl h
theorem PL.new {w w' : World} {L b z : Nat} {t : ByteArray} (hz : z = 4 \/ z = 8 \/ z = 16) (hL : L <= w.heap.size) (hb : L <= b) (hbw : b < w.heap.size) (hr : PR w b t (Rdr.start t ch0)) (he : (Rdr.start t ch0).err = 0) (hw : w' = w.alloc (.cells #[.pointer (some ⟨b, 0, none⟩), .int .i64 z, .slice none 0 0, .int .i64 0, .slice none 0 0, .slice none 0 0] 110)) :
  PL w' L w.heap.size b (.slice none 0 0) [] t z ⟨Rdr.start t ch0, [], [], 0, 0, 0⟩ := by
 have hrow : w'.heap[w.heap.size]? = some (.cells #[.pointer (some ⟨b, 0, none⟩), .int .i64 z, .slice none 0 0, .int .i64 0, .slice none 0 0, .slice none 0 0] 110 (0, 0)) := by rw [hw]; exact heap_alloc_last w _
 have hB : Below w.heap.size w w' := by rw [hw]; exact (Below.refl _ w).alloc (Nat.le_refl _) _
 refine ⟨hr.on (hB.block b hbw), Rdr.start_ok t ch0 ch0_ok, he, cell_of_row _ _ 0 _ _ _ hrow, cell_of_row _ _ 1 _ _ _ hrow, cell_of_row _ _ 2 _ _ _ hrow, ⟨_, cell_of_row _ _ 3 _ _ _ hrow⟩, ⟨_, cell_of_row _ _ 4 _ _ _ hrow⟩, ⟨_, cell_of_row _ _ 5 _ _ _ hrow⟩, fun o => frozen_of_row _ _ o _ _ hrow, World.ownsRow_nil w' _ _ _, fun i hi => absurd hi (by simp), rfl, hz, ?_, fun k e => absurd e (by simp [Value.ownBlock]), fun i k => ?_, ⟨hL, hb⟩, ⟨heap_lt hrow, Nat.lt_of_lt_of_le hbw hB.size⟩⟩
 ·simp; omega
 ·simp [Flm.px, Flm.okPx]
set_option maxHeartbeats 4000000 in
set_option maxRecDepth 100000 in
theorem pRead_main (w : World) (s t : ByteArray) (h4 : 4 <= s.size) (ht : s.extract 4 s.size = t) (hs : t.size <= maxLen) (z N : Nat) (hz : z = 4 \/ z = 8 \/ z = 16) (hN : N <= 8) (A : Nat -> Addr) (E : ErrsA w A) (SG : SoftG w w.heap.size) (he : (Rdr.start t ch0).err = 0)
  (hh : ∀ wx, Below w.heap.size w wx -> Calls Tryz.prog 44 #[.string s] wx fun e w' => e = .returned (.tuple #[.int .i64 z, .int .i64 N, .nilIface]) /\ Below wx.heap.size wx w') :
  Calls Tryz.prog 21 #[.string s] w (ReadPost A w t z (Flm.frames t z N ⟨Rdr.start t ch0, [], [], 0, 0, 0⟩)) := by
 obtain ⟨F, hF⟩ : ∃ F, F = Flm.frames t z N ⟨Rdr.start t ch0, [], [], 0, 0, 0⟩ := ⟨_, rfl⟩
 rw [<- hF]
 have HF : Hid (F = Flm.frames t z N ⟨Rdr.start t ch0, [], [], 0, 0, 0⟩) := hF
 obtain ⟨W1, hW1⟩ : ∃ W1, W1 = w.alloc (.cells #[.int .i64 0, .slice none 0 0] 27) := ⟨_, rfl⟩
 have hB1 : Below w.heap.size w W1 := by rw [hW1]; exact (Below.refl _ w).alloc (Nat.le_refl _) _
 have hr1 : W1.heap[w.heap.size]? = some (.cells #[.int .i64 0, .slice none 0 0] 27 (0, 0)) := by rw [hW1]; exact heap_alloc_last w _
 have HW1 : Hid (W1 = w.alloc (.cells #[.int .i64 0, .slice none 0 0] 27)) := hW1
 have HB : Hid (Below w.heap.size w W1) := hB1
 have hlw : w.heap.size < W1.heap.size := heap_lt hr1
 have HC : Hid (∀ w2, Below W1.heap.size W1 w2 -> w2.cell? ⟨w.heap.size, 0, none⟩ = some (.int .i64 0) /\ w2.cell? ⟨w.heap.size, 1, none⟩ = some (.slice none 0 0) /\ w2.frozen? ⟨w.heap.size, 0, none⟩ = false /\ w2.frozen? ⟨w.heap.size, 1, none⟩ = false) := fun w2 b => by
  have r2 := (b.block _ (heap_lt hr1)).trans hr1
  exact ⟨cell_of_row _ _ 0 _ _ _ r2, cell_of_row _ _ 1 _ _ _ r2, frozen_of_row _ _ 0 _ _ r2, frozen_of_row _ _ 1 _ _ r2⟩
 have HH : Hid (Calls Tryz.prog 44 #[.string s] W1 fun e w' => e = .returned (.tuple #[.int .i64 z, .int .i64 N, .nilIface]) /\ Below W1.heap.size W1 w') := hh W1 hB1
 obtain ⟨L, hL⟩ : ∃ L, L = W1.heap.size := ⟨_, rfl⟩
 have hLw : w.heap.size < L := by rw [hL]; exact hlw
 have HES : Hid (∀ wx, Below L W1 wx -> ErrsL wx A L /\ SoftG wx L /\ L <= wx.heap.size) := fun wx hb => by
  have hs1 := hb.size
  rw [<- hL] at hs1
  have e1 := (E.below hB1).low
  rw [<- hL] at e1
  have sg1 : SoftG W1 L := SG.of (hB1.block _ SG.lt) (Nat.lt_trans SG.lt hLw)
  exact ⟨e1.below hb, sg1.below hb, hs1⟩
 have HNR : Hid (∀ wx, Below L W1 wx -> Calls Tryz.prog 45 #[.string t] wx fun e w' => ∃ b, e = .returned (.tuple #[.pointer (some ⟨b, 0, none⟩), .nilIface]) /\ L <= b /\ b < w'.heap.size /\ PR w' b t (Rdr.start t ch0) /\ Below wx.heap.size wx w') := fun wx hb => by
  obtain ⟨e1, _, e3⟩ := HES.out wx hb
  refine (pNewReader wx t hs (A 5) (A 6) (A 7) e1.all.errs).mono ?_
  rintro x w' ⟨pv, rfl, hp, b3⟩
  obtain ⟨b, rfl, l1, l2, l3⟩ := hp he
  refine ⟨b, ?_, by omega, l2, l3, b3⟩
  rw [he, errV0]
 rw [<- hL] at HC HH
 have HLE : Hid (L = W1.heap.size) := hL
 have h4' : (4 : Int) <= (s.size : Int) := by omega
 have hN' : (N : Int) <= 8 := by omega
 clear hh hW1 hB1 hr1 hF E SG hL hlw
 go_enter Tryz.func21, Tryz.ntmps21
 go_wp2_with (first
  | (rw [<- HW1.out])
  | (go_at_call 44; refine HH.out.mono ?_; rintro e w2 ⟨rfl, b2⟩)
  | (go_at_call 45; refine (HNR.out _ b2).mono ?_; rintro e w3 ⟨b, rfl, l1, l2, hr3, b3⟩))
 obtain ⟨p, hp⟩ : ∃ p, p = w3.heap.size := ⟨_, rfl⟩
 obtain ⟨w4, hw4⟩ : ∃ w4, w4 = w3.alloc (.cells #[.pointer (some ⟨b, 0, none⟩), .int .i64 z, .slice none 0 0, .int .i64 0, .slice none 0 0, .slice none 0 0] 110) := ⟨_, rfl⟩
 have hL3 : L <= w3.heap.size := by have := (HES.out w2 b2).2.2; have := b3.size; omega
 have b4 : Below w3.heap.size w3 w4 := by rw [hw4]; exact (Below.refl _ w3).alloc (Nat.le_refl _) _
 have b14 : Below L W1 w4 := (b2.trans (b3.mono (by have := (HES.out w2 b2).2.2; omega))).trans (b4.mono hL3)
 have HL0 : Hid (PL w4 L p b (.slice none 0 0) [] t z ⟨Rdr.start t ch0, [], [], 0, 0, 0⟩ /\ Below L W1 w4) := ⟨by rw [hp]; exact PL.new hz hL3 l1 l2 hr3 he hw4, b14⟩
 rw [<- hp, <- hw4]
 clear hp hw4 b4 b14 b2 b3 hr3 l2 hL3 HH HNR
 go_loopw [36] (fun kv wr => ∃ (k : Nat) (Dv : Value) (dbs : List Nat) (q : FS), k <= N /\ kv = .int .i64 k /\ Flm.frames t z (N - k) q = F /\ PL wr L p b Dv dbs t z q /\ dbs.length = k /\ Below L W1 wr) (fun kv _ => N - (intOf kv).toNat)
 case atStart => exact ⟨0, _, _, _, by omega, rfl, HF.out.symm, HL0.out.1, rfl, HL0.out.2⟩
 case round =>
  clear HL0
  obtain ⟨k, Dv, dbs, q, hk, rfl, hfr, hpl, hdb, hbw⟩ := hrel
  obtain ⟨e1, e2, e3⟩ := HES.out wr hbw
  by_cases hkn : k < N
  ·have hkn' : (k : Int) < (N : Int) := by omega
   rw [show N - k = (N - (k + 1)) + 1 by omega, Flm.frames_on hpl.err] at hfr
   have HFM := pFrame wr L p b Dv dbs t z q A hpl (by rw [<- hpl.n1, hdb]; omega) hs e1 e2 e3
   obtain ⟨q1, hq1⟩ : ∃ q1, q1 = Flm.area t z (Flm.cuts z) 0 0 z (Flm.begin z q) := ⟨_, rfl⟩
   rw [<- hq1] at HFM hfr
   have HBW : Hid (Below L W1 wr) := hbw
   have HD : Hid (dbs.length = k) := hdb
   clear hpl hdb hbw e1 e2 e3 hq1
   by_cases hqe : q1.r.err = 0
   ·have HFG : Hid (Calls Tryz.prog 46 #[.pointer (some ⟨p, 0, none⟩)] wr fun e w' => e = .returned .nilIface /\ (∃ Dv' dbs', PL w' L p b Dv' dbs' t z q1 /\ dbs'.length = dbs.length + 1) /\ Below L wr w') := HFM.mono (fun e w' h => ⟨by rw [h.1, fltV_zero A _ hqe], h.2.1 hqe, h.2.2⟩)
    have HFE : Hid (Flm.frames t z (N - (k + 1)) q1 = F) := hfr
    clear HFM hqe hfr
    go_wp2_with (go_at_call 46; refine HFG.out.mono ?_; rintro e w5 ⟨rfl, h5, b5⟩)
    go_roundw
    case rel =>
     obtain ⟨Dv', dbs', h5, l5⟩ := h5
     exact ⟨k + 1, Dv', dbs', q1, by omega, by go_num, HFE.out, h5, by rw [l5, HD.out], HBW.out.trans b5⟩
    case measure => simp [intOf]; omega
   ·obtain ⟨fv, hfv⟩ : ∃ fv, fv = Value.agg #[.int .i64 (Flm.plc q1).1, .int .i64 (Flm.plc q1).2.1, .int .i64 (Flm.plc q1).2.2, .iface 278 (.pointer (some (A q1.r.err.toNat)))] := ⟨_, rfl⟩
    have HFG : Hid (Calls Tryz.prog 46 #[.pointer (some ⟨p, 0, none⟩)] wr fun e w' => e = .returned (.iface 113 fv) /\ Below L wr w') := HFM.mono (fun e w' h => ⟨by rw [h.1, fltV_pos A _ hqe, hfv], h.2.2⟩)
    have HQ : Hid (F = q1 /\ .iface 113 fv = fltV A (Flm.plc q1) q1.r.err /\ q1.r.err ≠ 0) := ⟨by rw [<- hfr, Flm.frames_off hqe], by rw [fltV_pos A _ hqe, hfv], hqe⟩
    clear HFM hqe hfr hfv
    go_wp2_with (go_at_call 46; refine HFG.out.mono ?_; rintro e w5 ⟨rfl, b5⟩; obtain ⟨k0, k1, z0, z1⟩ := HC.out w5 (HBW.out.trans b5))
    obtain ⟨X, hX⟩ : ∃ X, X = (w5.setCell ⟨w.heap.size, 0, none⟩ (.int .i64 0)).setCell ⟨w.heap.size, 1, none⟩ (.slice none 0 0) := ⟨_, rfl⟩
    rw [<- hX]
    obtain ⟨q0, q1', fX⟩ := two_set w5 w.heap.size _ _ k0 k1 X hX
    refine bodyPost_ret (v := .tuple #[.agg #[.int .i64 0, .slice none 0 0], .iface 113 fv]) (by simp [results, Tryz.results21, go_sem, q0, q1']) rfl ?_
    obtain ⟨y1, y2, y3⟩ := HQ.out
    have hbx : Below w.heap.size w X := (HB.out.trans ((HBW.out.trans b5).mono (by omega))).trans (fX.below (by have := HB.out.size; have := (HBW.out.trans b5).size; have := HLE.out; omega) (fun k e => by omega))
    exact ⟨fun _ => by rw [y1, y2], fun h0 => absurd (y1 ▸ h0) y3, fun h0 => absurd (y1 ▸ h0) y3, hbx⟩
  ·have hkn' : ¬ ((k : Int) < (N : Int)) := by omega
   rw [show N - k = 0 by omega] at hfr
   have hFq : F = q := hfr.symm
   obtain ⟨da, dc, hD, _⟩ := owns_form hpl.rows
   obtain ⟨M, hM⟩ : ∃ M, M = q.frs.length := ⟨_, rfl⟩
   rw [<- hM] at hD
   subst hD
   clear hM
   have d2 := hpl.c2
   obtain ⟨k0, k1, z0, z1⟩ := HC.out wr hbw
   have HEN := pEnd wr b t q.r (A 5) (A 6) (A 7) hpl.pr hpl.err (e1.all.errs).v1
   have hfe := finish_err t q.r hpl.err
   have HQ : Hid (F = q /\ PL wr L p b (.slice da M dc) dbs t z q /\ dbs.length = k /\ Below L W1 wr) := ⟨hFq, hpl, hdb, hbw⟩
   have hpw := hpl.up.1
   clear hfr hFq hpl hdb hbw e1 e2 e3
   by_cases hf0 : (Rdr.finish t q.r).err = 0
   ·rw [hf0, errV0] at HEN
    have HEH : Hid (Calls Tryz.prog 47 #[.pointer (some ⟨b, 0, none⟩)] wr fun x w' => x = .returned .nilIface /\ w' = wr) := HEN
    have HF0 : Hid ((Rdr.finish t q.r).err = 0) := hf0
    clear HEN hf0 hfe
    go_wp2_with (go_at_call 47; refine HEH.out.mono ?_; rintro e w5 ⟨rfl, hw5⟩; rw [hw5]; clear hw5)
    obtain ⟨X, hX⟩ : ∃ X, X = (wr.setCell ⟨w.heap.size, 0, none⟩ (.int .i64 z)).setCell ⟨w.heap.size, 1, none⟩ (.slice da M dc) := ⟨_, rfl⟩
    rw [<- hX]
    obtain ⟨q0, q1', fX⟩ := two_set wr w.heap.size _ _ k0 k1 X hX
    refine bodyPost_ret (v := .tuple #[.agg #[.int .i64 z, .slice da M dc], .nilIface]) (by simp [results, Tryz.results21, go_sem, q0, q1']) rfl ?_
    obtain ⟨y1, y2, y3, y4⟩ := HQ.out
    have hbx : Below w.heap.size w X := (HB.out.trans (y4.mono (by omega))).trans (fX.below (by have := HB.out.size; have := y4.size; have := HLE.out; omega) (fun k e => by omega))
    rw [y1]
    exact ⟨fun h0 => absurd y2.err h0, fun _ h0 => absurd HF0.out h0, fun _ _ => ⟨_, L, by omega, rfl, y2.film (by rw [<- y2.n1, y3]; omega) fX (fun k e => by omega)⟩, hbx⟩
   ·have h6 : (Rdr.finish t q.r).err = 6 := by rcases hfe with h | h; exact absurd h hf0; exact h
    rw [h6, errV6] at HEN
    obtain ⟨ea, hea⟩ : ∃ ea, ea = A 6 := ⟨_, rfl⟩
    rw [<- hea] at HEN
    have HEH : Hid (Calls Tryz.prog 47 #[.pointer (some ⟨b, 0, none⟩)] wr fun x w' => x = .returned (.iface 278 (.pointer (some ea))) /\ w' = wr) := HEN
    have HF0 : Hid ((Rdr.finish t q.r).err = 6 /\ ea = A 6) := ⟨h6, hea⟩
    clear HEN hf0 hfe h6 hea
    go_wp2_with (go_at_call 47; refine HEH.out.mono ?_; rintro e w5 ⟨rfl, hw5⟩; rw [hw5]; clear hw5)
    obtain ⟨X, hX⟩ : ∃ X, X = (wr.setCell ⟨w.heap.size, 0, none⟩ (.int .i64 0)).setCell ⟨w.heap.size, 1, none⟩ (.slice none 0 0) := ⟨_, rfl⟩
    rw [<- hX]
    obtain ⟨q0, q1', fX⟩ := two_set wr w.heap.size _ _ k0 k1 X hX
    refine bodyPost_ret (v := .tuple #[.agg #[.int .i64 0, .slice none 0 0], .iface 278 (.pointer (some ea))]) (by simp [results, Tryz.results21, go_sem, q0, q1']) rfl ?_
    obtain ⟨y1, y2, y3, y4⟩ := HQ.out
    obtain ⟨x1, x2⟩ := HF0.out
    have hbx : Below w.heap.size w X := (HB.out.trans (y4.mono (by omega))).trans (fX.below (by have := HB.out.size; have := y4.size; have := HLE.out; omega) (fun k e => by omega))
    rw [y1]
    exact ⟨fun h0 => absurd y2.err h0, fun _ _ => by rw [x1, x2]; rfl, fun _ h0 => absurd (x1.symm.trans h0) (by decide), hbx⟩
end Go.Proofs.YtekfbphnoibnjaaGreatDoor
