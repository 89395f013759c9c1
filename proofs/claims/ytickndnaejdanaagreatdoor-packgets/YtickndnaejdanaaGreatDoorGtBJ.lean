/- getOne and GetList of package pack at texts of at most 8 bytes, at any bytes. -/
import Derived.Test.YtickndnaejdanaaGreatDoorGtAJ
import Derived.Test.YtickndnaejdanaaGreatDoorReaderMoreJ
import Derived.Test.YtickndnaejdanaaGreatDoorSizeJ
import Derived.Test.YtickndnaejdanaaGreatDoorBgDJ
import Derived.Recover
import Derived.Defers
import Derived.Maps.AppendAt
namespace Go.Proofs.YtickndnaejdanaaGreatDoor
open Go.RowKit
set_option maxRecDepth 8000

section
variable (g : Nat) (v : Value) (xs : List Int) (f : Int) (w : World)

theorem getText_any (h : IsR w g v xs f) (hb : Byts xs) : Calls Tryz.prog 8 #[.pointer (some ⟨g, 0, none⟩)] w fun e w' => e = .returned (.string (strOfNums (rdBuf 8 xs f).1)) ∧ ReadsTo w g v (rdBuf 8 xs f).2 w' := by
  have HT : Hid _ := rText_any g v xs f w 8 h hb
  clear h hb
  go_enter Tryz.func8, Tryz.ntmps8
  go_wp2_with fail
  refine Calls.mono HT.out ?_
  rintro e w1 ⟨rfl, hr⟩
  have HR : Hid _ := hr
  clear hr
  go_wp2
  go_ret
  exact ⟨rfl, HR.out⟩
end

theorem getDefS (p : Addr) (w : World) : CallsD Tryz.prog 59 #[.pointer (some p)] .returning w fun e u' w' => e = .returned (.tuple #[]) ∧ u' = .returning ∧ w' = w := by
  refine callsD_of_wpS Tryz.func59 rfl fun c₀ cs hu => ?_
  apply wpS_seq
  apply wpS_region
  simp [wpOpsS, go_sem, recoverD, hu, Tryz.ntmps59, Exit.thenS]
  refine wpS_cond (t := false) (by simp [Act.eval, Array.replicate]) ?_
  simp only [Bool.false_eq_true, if_false]
  refine wpS_of_wp (wp_skip ?_)
  cases c₀
  simp_all [bodyPostS, results, Tryz.results59]

theorem ReadsTo.nextS {w w1 w2 : World} {g : Nat} {v v1 : Value} {s : Rd} (hk : Kept w w1 (· = g)) (hv : ∀ k, v1.ownBlock = some k → v.ownBlock = some k) (h : ReadsTo w1 g v1 s w2) : ReadsTo w g v s w2 := by
  obtain ⟨v', a, b, c⟩ := h
  exact ⟨v', a, fun k e => hv k (b k e), hk.trans c (fun _ _ h => h)⟩

set_option maxHeartbeats 1000000 in
theorem getOneS_any (g : Nat) (v : Value) (xs : List Int) (w : World) (h : IsR w g v xs 0) (hb : Byts xs) :
    Calls Tryz.prog 29 #[.pointer (some ⟨g, 0, none⟩), .func (.func 8) #[] #[]] w fun e w' => e = .returned (.string (strOfNums (rdBuf 8 xs 0).1)) ∧ ReadsTo w g v (rdBuf 8 xs 0).2 w' := by
  have H : Hid (IsR w g v xs 0 ∧ Byts xs ∧ g < w.heap.size) := ⟨h, hb, lt_of_block h.1⟩
  clear h hb
  have hfn : ∀ w, (binOp .eql 29 (.func (.func 8) #[] #[]) .nilFunc).run Tryz.prog w = .ok (.bool false) w := fun _ => by kernel_rfl
  obtain ⟨V, eV⟩ : ∃ V, V = w.alloc (.cells #[.pointer (some ⟨g, 0, none⟩)] 24) := ⟨_, rfl⟩
  have HV : Hid (Kept w V (fun _ => False)) := by
    subst eV
    exact (Kept.refl w _).alloc _
  have HE : Hid _ := eV
  clear eV
  go_enter_defers Tryz.func29, Tryz.ntmps29
  go_wp2_with fail
  rw [← HE.out]
  clear HE
  refine (getText_any g v xs 0 V (H.out.1.kept HV.out (fun h => h) (fun _ _ h => h)) H.out.2.1).mono ?_
  rintro e w2 ⟨rfl, hr⟩
  generalize hx : strOfNums (rdBuf 8 xs 0).1 = s at *
  have H2 : Hid (ReadsTo w g v (rdBuf 8 xs 0).2 w2) := ReadsTo.nextS (HV.out.mono (fun _ _ h => h.elim)) (fun _ h => h) hr
  clear hr
  go_wp2_with fail
  refine leaves_cons (f := 59) (args := #[.pointer (some ⟨w.heap.size, 0, none⟩)]) (by simp) (by simp [go_sem]) ?_
  refine (getDefS _ _).mono ?_
  rintro e u' w'' ⟨rfl, rfl, rfl⟩
  refine ⟨.string s, ?_, by rw [hx], H2.out⟩
  simp [results, Tryz.results29]
end Go.Proofs.YtickndnaejdanaaGreatDoor
