/- What PutList does with a put that is nil, and GetList with a get that is nil: the count is put alone; as many zeros are answered as the count says. -/
import Derived.Test.YtmjcpcpcngpdjabDoorSize
import Derived.Defers
import Derived.Recover
namespace Go.Proofs.YtmjcpcpcngpdjabDoor
open Go.RowKit

theorem Tryd.nilPut (w : World) : (binOp .eql 47 .nilFunc .nilFunc).run Tryd.prog w = .ok (.bool true) w := by kernel_rfl
theorem Tryd.nilGet (w : World) : (binOp .eql 54 .nilFunc .nilFunc).run Tryd.prog w = .ok (.bool true) w := by kernel_rfl

set_option maxHeartbeats 400000 in
theorem putListS_nil (g : Nat) (v : Value) (xs : List Int) (ao : Option Addr) (n cap : Nat) (w : World) (h : IsW w g v xs) (hn : n ≤ 4194304) (hb : xs.length ≤ 70000000000) :
    Calls Tryd.prog 5 #[.pointer (some ⟨g, 0, none⟩), .slice ao n cap, .nilFunc] w fun e w' => e = .returned (.tuple #[]) ∧ Puts w g v (xs ++ be4 n) w' := by
  have H : Hid (IsW w g v xs) := h
  have hnil := Tryd.nilPut
  clear h
  go_enter_defers Tryd.func5, Tryd.ntmps5
  go_wp2_with fail
  refine (wInt32_any g v xs n _ H.out (by omega)).mono ?_
  rintro e w1 ⟨rfl, hp⟩
  rw [show up32 (n : Int) = n by unfold up32; omega] at hp
  have HP : Hid (Puts w g v (xs ++ be4 n) w1) := hp
  clear hp
  go_wp2
  exact ⟨_, results_none rfl _ _ _, rfl, HP.out⟩

theorem putListS_none (u : Value) (w : World) :
    Calls Tryd.prog 5 #[.pointer none, u, .nilFunc] w fun e w' => e = .returned (.tuple #[]) ∧ w' = w := by
  go_enter_defers Tryd.func5, Tryd.ntmps5
  go_wp2
  exact ⟨_, results_none rfl _ _ _, rfl, rfl⟩

theorem getOne_nil (p : Value) (w : World) (hp : p = .pointer none ∨ ∃ a, p = .pointer (some a)) :
    Calls Tryd.prog 27 #[p, .nilFunc] w fun e w' => e = .returned (.int .i8 0) ∧ Below w.heap.size w w' := by
  have hnil := Tryd.nilGet
  rcases hp with rfl | ⟨a, rfl⟩
  all_goals
    go_enter_defers Tryd.func27, Tryd.ntmps27
    go_wp2
    exact ⟨_, results_tmp rfl _ _ _, rfl, (Below.refl _ _).alloc (Nat.le_refl _) _⟩

theorem below_grows {w w' : World} (h : Below w.heap.size w w') : w.grownBy w' none := ⟨h.os, h.tape, h.output, h.size, fun k hk _ => h.block k hk⟩

theorem IsR.kept' {w w' : World} {g : Nat} {v : Value} {xs : List Int} {f : Int} {S : Nat → Prop} (h : IsR w g v xs f) (hk : Kept w w' S) (hg : ¬ S g) (hn : xs ≠ [] → ∀ k, v.ownBlock = some k → ¬ S k) : IsR w' g v xs f := by
  refine ⟨hk.heap h.1 hg, ?_⟩
  by_cases hx : xs = []
  · obtain ⟨ao, cap, e, h1, h2, h0, _⟩ := h.2
    exact ⟨ao, cap, e, h1, h2, h0, .inl hx⟩
  · exact h.2.kept hk (hn hx)

theorem Tryd.infoI8 : (Tryd.prog.info? 36).map (fun i => (i.zero, i.size, i.bytes)) = some (some (.int .i8 0), 1, 1) := by kernel_rfl

/-- k zeros, each a cell. -/
def zeros (k : Nat) : List Value := List.replicate k (.int .i8 0)
theorem zeros_next (k : Nat) : zeros k ++ [.int .i8 0] = zeros (k + 1) := by
  unfold zeros; rw [List.replicate_succ']

theorem getList_none (most : Int) (w : World) :
    Calls Tryd.prog 10 #[.pointer none, .int .i64 most, .nilFunc] w fun e w' => e = .returned (.slice none 0 0) ∧ w' = w := by
  go_enter Tryd.func10, Tryd.ntmps10
  go_wp2_with fail
  refine (nilSize_any most _).mono ?_
  rintro e w1 ⟨rfl, rfl⟩
  go_wp2
  go_ret
  exact ⟨rfl, rfl⟩

set_option maxHeartbeats 400000 in
theorem getList_wide (g : Nat) (v : Value) (xs : List Int) (most : Int) (w : World) (h : IsR w g v xs 0) (hb : Byts xs) (hl : 4 ≤ xs.length) (hn : ahead xs < 0 ∨ most < ahead xs) :
    Calls Tryd.prog 10 #[.pointer (some ⟨g, 0, none⟩), .int .i64 most, .nilFunc] w fun e w' => e = .returned (.slice none 0 0) ∧ w' = w.setCell ⟨g, 2, none⟩ (.int .i64 11) := by
  have H : Hid (IsR w g v xs 0 ∧ Byts xs ∧ (ahead xs < 0 ∨ most < ahead xs)) := ⟨h, hb, hn⟩
  clear h hb hn
  go_enter Tryd.func10, Tryd.ntmps10
  go_wp2_with fail
  refine (rSize_wide g v xs most _ H.out.1 H.out.2.1 hl H.out.2.2).mono ?_
  rintro e w1 ⟨rfl, rfl⟩
  go_wp2
  go_ret
  exact ⟨rfl, rfl⟩

set_option maxHeartbeats 1000000 in
theorem getList_ok (g : Nat) (v : Value) (xs : List Int) (most : Int) (n : Nat) (w : World) (h : IsR w g v xs 0) (hb : Byts xs) (hl : n + 4 ≤ xs.length) (hn : ahead xs = n) (hm : (n : Int) ≤ most) (hr : n ≤ 4194304) :
    Calls Tryd.prog 10 #[.pointer (some ⟨g, 0, none⟩), .int .i64 most, .nilFunc] w fun e w' => ∃ v' vr, e = .returned v' ∧ w'.ownsRow w.heap.size 36 1 v' n (zeros n) ∧ IsR w' g vr (xs.drop 4) 0 ∧ Kept w w' (· = g) := by
  have H : Hid (IsR w g v xs 0 ∧ Byts xs ∧ ahead xs = n) := ⟨h, hb, hn⟩
  have hgw : g < w.heap.size := lt_of_block h.1
  clear h hb hn
  obtain ⟨i0, hi, hz0, hz1, hz2⟩ := info_parts Tryd.infoI8
  go_enter Tryd.func10, Tryd.ntmps10
  go_wp2_with fail
  refine (rSize_ok g v xs most _ H.out.1 H.out.2.1 (by omega) (by rw [H.out.2.2]; omega) (by rw [H.out.2.2]; omega) (by rw [H.out.2.2]; omega)).mono ?_
  rintro e w1 ⟨rfl, rfl⟩
  rw [H.out.2.2]
  go_wp2_with fail
  refine (rSkip_ok g v xs 4 0 _ H.out.1 (by omega)).mono ?_
  rintro e w2 ⟨rfl, hw2⟩
  have HR : Hid (IsR w2 g (cutFrom v 4) (xs.drop 4) 0 ∧ Kept w1 w2 (· = g) ∧ (∀ k, (cutFrom v 4).ownBlock = some k → k < w1.heap.size ∨ xs.drop 4 = [])) := by
    rw [hw2]
    refine ⟨H.out.1.skip (by omega), (Kept.refl w1 _).setCell _ _ (fun _ => rfl), fun k hk => ?_⟩
    by_cases hx : xs.drop 4 = []
    · exact .inr hx
    · refine .inl ?_
      have h2 := H.out.1.2
      obtain ⟨ao, cap, rfl, _⟩ := h2
      exact H.out.1.2.lt (fun e => hx (by rw [e]; simp)) k (cutFrom_block hk)
  clear hw2
  go_wp2
  go_loopw [9, 10] (fun l i wr => ∃ k : Nat, k ≤ n ∧ i = .int .i64 k ∧ wr.ownsRow w1.heap.size 36 1 l k (zeros k) ∧ IsR wr g (cutFrom v 4) (xs.drop 4) 0 ∧ Kept w1 wr (· = g)) (fun _ i _ => n - (intOf i).toNat)
  case atStart => exact ⟨0, Nat.zero_le _, rfl, World.ownsRow_nil _ _ _ _, HR.out.1, HR.out.2.1⟩
  case round =>
    obtain ⟨k, hk, rfl, hown, hR, hK⟩ := hrel
    have HO : Hid (wr.ownsRow w1.heap.size 36 1 u9 k (zeros k) ∧ IsR wr g (cutFrom v 4) (xs.drop 4) 0 ∧ Kept w1 wr (· = g)) := ⟨hown, hR, hK⟩
    clear hown hR hK
    by_cases hlt : k < n
    · have hd : decide ((k : Int) < (n : Int)) = true := by simp; omega
      have hd' : decide (k < n) = true := by simp; omega
      go_wp2_with fail
      refine (rReads_any g _ _ 0 _ HO.out.2.1).mono ?_
      rintro e w3 ⟨rfl, rfl⟩
      go_wp2_with fail
      refine (getOne_nil _ _ (.inr ⟨_, rfl⟩)).mono ?_
      rintro e w4 ⟨rfl, hb4⟩
      have hsz := HO.out.2.2.size
      have hs4 := hb4.size
      have hown4 := HO.out.1.kept (below_grows hb4) (by cases h : u9.ownBlock with | none => exact .inl rfl | some b => exact .inr (by simp))
      have HO4 : Hid (w4.ownsRow w1.heap.size 36 1 u9 k (zeros k) ∧ Below w3.heap.size w3 w4) := ⟨hown4, hb4⟩
      clear hown4 hb4
      go_wp2_with (at_builtin; refine wpList_append_own _ rfl _ _ 34 rfl w1.heap.size 36 i0 (.int .i8 0) 1 1 Tryd.underlying34 hi hz0 hz1 hz2 rfl (by decide) _ _ _ rfl (HO4.out.1.alloc _) ⟨w4.heap.size, 0, none⟩ 1 1 [.int .i8 0] rfl rfl ?c1 ?c2 ?c3 ?c4 ?c5 ?_)
      case c1 =>
        intro j u hj
        match j, hj with
        | 0, hj => simp at hj; subst hj; simp [Addr.add]
      case c2 => intro u hu; simp at hu; subst hu; rfl
      case c3 => unfold maxLen; omega
      case c4 => omega
      case c5 => simp; omega
      intro v' w5 hown5 hgrow5 _
      rw [zeros_next] at hown5
      have hK5 : Kept w3 w5 (fun b => w1.heap.size ≤ b) := by
        have k4 : Kept w3 w4 (fun b => w1.heap.size ≤ b) := (Below.kept HO4.out.2).mono (fun b hb hs => by omega)
        refine (k4.alloc _).grown hgrow5 (fun b hb e => (HO4.out.1.lt b e).1)
      have HR5 : Hid (w5.ownsRow w1.heap.size 36 1 v' (k + 1) (zeros (k + 1)) ∧ IsR w5 g (cutFrom v 4) (xs.drop 4) 0 ∧ Kept w1 w5 (· = g)) := by
        refine ⟨hown5, HO.out.2.1.kept' hK5 (by omega) (fun hx b hb => ?_), HO.out.2.2.trans hK5 (fun b hb hs => by omega)⟩
        rcases HR.out.2.2 b hb with h | h
        · omega
        · exact absurd h hx
      clear hown5 hgrow5 hK5 HO4 HO
      go_wp2
      go_roundw
      case rel => exact ⟨k + 1, by omega, by go_num, HR5.out.1, HR5.out.2.1, HR5.out.2.2⟩
      case measure => simp [intOf]; omega
    · obtain rfl : k = n := by omega
      have hd : decide ((k : Int) < (k : Int)) = false := by simp
      have hd' : decide (k < k) = false := by simp
      go_wp2_with fail
      refine (rReads_any g _ _ 0 _ HO.out.2.1).mono ?_
      rintro e w3 ⟨rfl, rfl⟩
      go_wp2
      go_ret
      exact ⟨_, _, rfl, HO.out.1, HO.out.2.1, HO.out.2.2⟩
end Go.Proofs.YtmjcpcpcngpdjabDoor
