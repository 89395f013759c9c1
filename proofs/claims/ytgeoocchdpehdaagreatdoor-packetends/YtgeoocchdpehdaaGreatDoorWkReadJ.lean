import Derived.Test.YtgeoocchdpehdaaGreatDoorWrTJ
import Derived.Test.YtgeoocchdpehdaaGreatDoorChkTJ
import Derived.Test.YtgeoocchdpehdaaGreatDoorChk3J
import Derived.Test.YtgeoocchdpehdaaGreatDoorReaderAllJ
import Derived.Test.YtgeoocchdpehdaaGreatDoorPkBJ
namespace Go.Proofs.YtgeoocchdpehdaaGreatDoor
open Go.RowKit
set_option maxRecDepth 8000

def headB (e n sv bt nm : Int) : List Int := be4 e ++ be4 n ++ [sv % 256] ++ be4 bt ++ be8 (up64 nm)

set_option maxHeartbeats 4000000 in
theorem write_ok (e n sv bt nm k : Int) (s : ByteArray) (da aa wa oa : Option Addr) (dl dc al ac wl wc ol oc : Nat) (ver : Int) (eph seq : Bool) (ses tmo : Int) (E : List Int) (w : World) (h0 : 0 ≤ e) (h1 : e ≤ 4294967295) (h2 : 0 ≤ n) (h3 : n ≤ 4294967295) (h4 : 0 ≤ bt) (h5 : bt ≤ 4294967295) (hE : E.length ≤ 1000000000000)
    (hck : ∀ W : World, Below w.heap.size w W → Calls Tryz.prog 115 #[.agg #[.int .u32 e, .int .u32 n, .int .i8 sv, .int .u32 bt, .int .i64 nm, .int .i8 k, .string s, .slice da dl dc, .slice aa al ac, .int .i32 ver, .bool eph, .bool seq, .int .i64 ses, .int .i32 tmo, .slice wa wl wc, .slice oa ol oc]] W fun r W' => r = .returned (.int .i64 0) ∧ Below W.heap.size W W')
    (hpt : ∀ (W : World) (g : Nat) (v : Value) (xs : List Int), Below w.heap.size w W → IsW W g v xs → xs.length ≤ 1000 → w.heap.size ≤ g → (∀ j, v.ownBlock = some j → w.heap.size ≤ j) → Calls Tryz.prog 126 #[lay 8 0, .pointer (some ⟨g, 0, none⟩), .agg #[.int .i8 k, .string s, .slice da dl dc, .slice aa al ac, .int .i32 ver, .bool eph, .bool seq, .int .i64 ses, .int .i32 tmo, .slice wa wl wc, .slice oa ol oc]] W fun r W' => r = .returned (.tuple #[]) ∧ Puts W g v (xs ++ E) W') :
    Calls Tryz.prog 117 #[.agg #[.int .u32 e, .int .u32 n, .int .i8 sv, .int .u32 bt, .int .i64 nm, .int .i8 k, .string s, .slice da dl dc, .slice aa al ac, .int .i32 ver, .bool eph, .bool seq, .int .i64 ses, .int .i32 tmo, .slice wa wl wc, .slice oa ol oc]] w fun r w' => ∃ v, r = .returned (.tuple #[v, .int .i64 0]) ∧ Owns w' w.heap.size v (headB e n sv bt nm ++ E) ∧ Below w.heap.size w w' := by
  have HCK : Hid _ := hck
  have HPT : Hid _ := hpt
  obtain ⟨W0, eW⟩ : ∃ W0, W0 = w.alloc (.cells #[.int .u32 e, .int .u32 n, .int .i8 sv, .int .u32 bt, .int .i64 nm, .int .i8 k, .string s, .slice da dl dc, .slice aa al ac, .int .i32 ver, .bool eph, .bool seq, .int .i64 ses, .int .i32 tmo, .slice wa wl wc, .slice oa ol oc] 37) := ⟨_, rfl⟩
  have HE0 : Hid _ := eW
  have k0 : W0.cell? ⟨w.heap.size, 0, none⟩ = some (.int .u32 e) ∧ W0.cell? ⟨w.heap.size, 1, none⟩ = some (.int .u32 n) ∧ W0.cell? ⟨w.heap.size, 2, none⟩ = some (.int .i8 sv) ∧ W0.cell? ⟨w.heap.size, 3, none⟩ = some (.int .u32 bt) ∧ W0.cell? ⟨w.heap.size, 4, none⟩ = some (.int .i64 nm) ∧ W0.cell? ⟨w.heap.size, 5, none⟩ = some (.int .i8 k) ∧ W0.cell? ⟨w.heap.size, 6, none⟩ = some (.string s) ∧ W0.cell? ⟨w.heap.size, 7, none⟩ = some (.slice da dl dc) ∧ W0.cell? ⟨w.heap.size, 8, none⟩ = some (.slice aa al ac) ∧ W0.cell? ⟨w.heap.size, 9, none⟩ = some (.int .i32 ver) ∧ W0.cell? ⟨w.heap.size, 10, none⟩ = some (.bool eph) ∧ W0.cell? ⟨w.heap.size, 11, none⟩ = some (.bool seq) ∧ W0.cell? ⟨w.heap.size, 12, none⟩ = some (.int .i64 ses) ∧ W0.cell? ⟨w.heap.size, 13, none⟩ = some (.int .i32 tmo) ∧ W0.cell? ⟨w.heap.size, 14, none⟩ = some (.slice wa wl wc) ∧ W0.cell? ⟨w.heap.size, 15, none⟩ = some (.slice oa ol oc) := by
    subst eW
    refine ⟨?_, ?_, ?_, ?_, ?_, ?_, ?_, ?_, ?_, ?_, ?_, ?_, ?_, ?_, ?_, ?_⟩ <;> (rw [cell_of_row _ _ _ _ _ _ (heap_alloc_new _ _)]; rfl)
  have HB0 : Hid (Below w.heap.size w W0) := by subst eW; exact one_alloc _ _
  have HK0 : Hid _ := k0
  clear hck hpt eW k0
  go_enter Tryz.func117, Tryz.ntmps117
  go_wp2_with fail
  rw [← HE0.out]
  refine (HCK.out _ HB0.out).mono ?_
  rintro r w1 ⟨rfl, b1⟩
  have HB1 : Hid (Below w.heap.size w w1) := HB0.out.trans (b1.mono HB0.out.size)
  have HK1 : Hid _ := keep16 b1 HK0.out
  clear b1 HB0 HK0 HCK HE0
  obtain ⟨V, eV⟩ : ∃ V, V = w1.alloc (.cells #[.slice none 0 0] 54) := ⟨_, rfl⟩
  have HP0 : Hid (Puts V w1.heap.size (.slice none 0 0) [] V) := by
    subst eV
    exact ⟨_, ⟨heap_alloc_new _ _, World.ownsRow_nil _ _ _ _⟩, .inl rfl, Kept.refl _ _⟩
  have HC : Hid (∀ zs W, Puts V w1.heap.size (.slice none 0 0) zs W → W.cell? ⟨w.heap.size, 0, none⟩ = some (.int .u32 e) ∧ W.cell? ⟨w.heap.size, 1, none⟩ = some (.int .u32 n) ∧ W.cell? ⟨w.heap.size, 2, none⟩ = some (.int .i8 sv) ∧ W.cell? ⟨w.heap.size, 3, none⟩ = some (.int .u32 bt) ∧ W.cell? ⟨w.heap.size, 4, none⟩ = some (.int .i64 nm) ∧ W.cell? ⟨w.heap.size, 5, none⟩ = some (.int .i8 k) ∧ W.cell? ⟨w.heap.size, 6, none⟩ = some (.string s) ∧ W.cell? ⟨w.heap.size, 7, none⟩ = some (.slice da dl dc) ∧ W.cell? ⟨w.heap.size, 8, none⟩ = some (.slice aa al ac) ∧ W.cell? ⟨w.heap.size, 9, none⟩ = some (.int .i32 ver) ∧ W.cell? ⟨w.heap.size, 10, none⟩ = some (.bool eph) ∧ W.cell? ⟨w.heap.size, 11, none⟩ = some (.bool seq) ∧ W.cell? ⟨w.heap.size, 12, none⟩ = some (.int .i64 ses) ∧ W.cell? ⟨w.heap.size, 13, none⟩ = some (.int .i32 tmo) ∧ W.cell? ⟨w.heap.size, 14, none⟩ = some (.slice wa wl wc) ∧ W.cell? ⟨w.heap.size, 15, none⟩ = some (.slice oa ol oc)) := by
    intro zs W hp
    have hk : V.cell? ⟨w.heap.size, 0, none⟩ = some (.int .u32 e) ∧ V.cell? ⟨w.heap.size, 1, none⟩ = some (.int .u32 n) ∧ V.cell? ⟨w.heap.size, 2, none⟩ = some (.int .i8 sv) ∧ V.cell? ⟨w.heap.size, 3, none⟩ = some (.int .u32 bt) ∧ V.cell? ⟨w.heap.size, 4, none⟩ = some (.int .i64 nm) ∧ V.cell? ⟨w.heap.size, 5, none⟩ = some (.int .i8 k) ∧ V.cell? ⟨w.heap.size, 6, none⟩ = some (.string s) ∧ V.cell? ⟨w.heap.size, 7, none⟩ = some (.slice da dl dc) ∧ V.cell? ⟨w.heap.size, 8, none⟩ = some (.slice aa al ac) ∧ V.cell? ⟨w.heap.size, 9, none⟩ = some (.int .i32 ver) ∧ V.cell? ⟨w.heap.size, 10, none⟩ = some (.bool eph) ∧ V.cell? ⟨w.heap.size, 11, none⟩ = some (.bool seq) ∧ V.cell? ⟨w.heap.size, 12, none⟩ = some (.int .i64 ses) ∧ V.cell? ⟨w.heap.size, 13, none⟩ = some (.int .i32 tmo) ∧ V.cell? ⟨w.heap.size, 14, none⟩ = some (.slice wa wl wc) ∧ V.cell? ⟨w.heap.size, 15, none⟩ = some (.slice oa ol oc) := by subst eV; exact keep16 (one_alloc w1 _) HK1.out
    have hne : w.heap.size ≠ w1.heap.size := fun e => by
      have := World.block_lt_of_cell? w1 _ HK1.out.1
      have : w.heap.size < w1.heap.size := this
      omega
    have hz : ∀ {j : Nat} {u : Value}, V.cell? ⟨w.heap.size, j, none⟩ = some u → W.cell? ⟨w.heap.size, j, none⟩ = some u := fun hc => hp.cell hc hne (fun e => by simp [Value.ownBlock] at e)
    exact ⟨hz hk.1, hz hk.2.1, hz hk.2.2.1, hz hk.2.2.2.1, hz hk.2.2.2.2.1, hz hk.2.2.2.2.2.1, hz hk.2.2.2.2.2.2.1, hz hk.2.2.2.2.2.2.2.1, hz hk.2.2.2.2.2.2.2.2.1, hz hk.2.2.2.2.2.2.2.2.2.1, hz hk.2.2.2.2.2.2.2.2.2.2.1, hz hk.2.2.2.2.2.2.2.2.2.2.2.1, hz hk.2.2.2.2.2.2.2.2.2.2.2.2.1, hz hk.2.2.2.2.2.2.2.2.2.2.2.2.2.1, hz hk.2.2.2.2.2.2.2.2.2.2.2.2.2.2.1, hz hk.2.2.2.2.2.2.2.2.2.2.2.2.2.2.2⟩
  have HB : Hid (∀ zs W, Puts V w1.heap.size (.slice none 0 0) zs W → Below w.heap.size w W) := by
    intro zs W hp
    obtain ⟨v', q1, q2, q3⟩ := hp
    have hV : Below w.heap.size w V := by subst eV; exact HB1.out.alloc HB1.out.size _
    refine hV.trans (q3.below hV.size (fun j hj => ?_))
    rcases hj with hj | hj
    · have := HB1.out.size; omega
    · simp [Value.ownBlock] at hj
  have HR : Hid (∀ (v1 : Value) (j : Nat), NewRow V (.slice none 0 0) v1 → v1.ownBlock = some j → w.heap.size ≤ j) := by
    intro v1 j hn hj
    have hV : w1.heap.size ≤ V.heap.size := by subst eV; simp
    have := HB1.out.size
    rcases hn with hn | ⟨i, hn, hi⟩
    · rw [hn] at hj; simp [Value.ownBlock] at hj
    · rw [hn] at hj; simp at hj; omega
  have HE : Hid _ := eV
  clear eV
  obtain ⟨r0, r1, r2, r3, r4, r5, r6, r7, r8, r9, r10, r11, r12, r13, r14, r15⟩ := HC.out _ _ HP0.out
  rw [HE.out] at r0 r1 r2 r3 r4 r5 r6 r7 r8 r9 r10 r11 r12 r13 r14 r15
  go_wp2_with fail
  rw [← HE.out]
  clear r0 r1 r2 r3 r4 r5 r6 r7 r8 r9 r10 r11 r12 r13 r14 r15
  obtain ⟨v1, hW, hN, hK⟩ := HP0.out
  refine (wUint32_any w1.heap.size v1 _ e _ hW h0 (by omega) (by simp)).mono ?_
  rintro r w2 ⟨rfl, hp⟩
  have HP1 : Hid (Puts V w1.heap.size (.slice none 0 0) _ w2) := Puts.next hN hK hp
  clear hp hW hN hK HP0
  obtain ⟨r0, r1, r2, r3, r4, r5, r6, r7, r8, r9, r10, r11, r12, r13, r14, r15⟩ := HC.out _ _ HP1.out
  go_wp2_with fail
  obtain ⟨v1, hW, hN, hK⟩ := HP1.out
  refine (wUint32_any w1.heap.size v1 _ n _ hW h2 (by omega) (by simp [be4])).mono ?_
  rintro r w3 ⟨rfl, hp⟩
  have HP2 : Hid (Puts V w1.heap.size (.slice none 0 0) _ w3) := Puts.next hN hK hp
  clear hp hW hN hK HP1 r0 r1 r2 r3 r4 r5 r6 r7 r8 r9 r10 r11 r12 r13 r14 r15
  obtain ⟨r0, r1, r2, r3, r4, r5, r6, r7, r8, r9, r10, r11, r12, r13, r14, r15⟩ := HC.out _ _ HP2.out
  go_wp2_with fail
  obtain ⟨v1, hW, hN, hK⟩ := HP2.out
  refine (wInt8_any w1.heap.size v1 _ sv _ hW (by simp [be4])).mono ?_
  rintro r w4 ⟨rfl, hp⟩
  have HP3 : Hid (Puts V w1.heap.size (.slice none 0 0) _ w4) := Puts.next hN hK hp
  clear hp hW hN hK HP2 r0 r1 r2 r3 r4 r5 r6 r7 r8 r9 r10 r11 r12 r13 r14 r15
  obtain ⟨r0, r1, r2, r3, r4, r5, r6, r7, r8, r9, r10, r11, r12, r13, r14, r15⟩ := HC.out _ _ HP3.out
  go_wp2_with fail
  obtain ⟨v1, hW, hN, hK⟩ := HP3.out
  refine (wUint32_any w1.heap.size v1 _ bt _ hW h4 (by omega) (by simp [be4])).mono ?_
  rintro r w5 ⟨rfl, hp⟩
  have HP4 : Hid (Puts V w1.heap.size (.slice none 0 0) _ w5) := Puts.next hN hK hp
  clear hp hW hN hK HP3 r0 r1 r2 r3 r4 r5 r6 r7 r8 r9 r10 r11 r12 r13 r14 r15
  obtain ⟨r0, r1, r2, r3, r4, r5, r6, r7, r8, r9, r10, r11, r12, r13, r14, r15⟩ := HC.out _ _ HP4.out
  go_wp2_with fail
  obtain ⟨v1, hW, hN, hK⟩ := HP4.out
  refine (wInt64_any w1.heap.size v1 _ nm _ hW (by simp [be4])).mono ?_
  rintro r w6 ⟨rfl, hp⟩
  have HP5 : Hid (Puts V w1.heap.size (.slice none 0 0) _ w6) := Puts.next hN hK hp
  clear hp hW hN hK HP4 r0 r1 r2 r3 r4 r5 r6 r7 r8 r9 r10 r11 r12 r13 r14 r15
  obtain ⟨r0, r1, r2, r3, r4, r5, r6, r7, r8, r9, r10, r11, r12, r13, r14, r15⟩ := HC.out _ _ HP5.out
  go_wp2_with fail
  have HP6 : Hid (Puts V w1.heap.size (.slice none 0 0) (headB e n sv bt nm) w6.drew) := HP5.out.later (below_drewN (Below.refl _ _) 1)
  have k6 := HC.out _ _ HP6.out
  clear HP5 r0 r1 r2 r3 r4 r5 r6 r7 r8 r9 r10 r11 r12 r13 r14 r15
  go_region_held (fun w' => w'.cell? ⟨w.heap.size, 0, none⟩ = some (.int .u32 e) ∧ w'.cell? ⟨w.heap.size, 1, none⟩ = some (.int .u32 n) ∧ w'.cell? ⟨w.heap.size, 2, none⟩ = some (.int .i8 sv) ∧ w'.cell? ⟨w.heap.size, 3, none⟩ = some (.int .u32 bt) ∧ w'.cell? ⟨w.heap.size, 4, none⟩ = some (.int .i64 nm) ∧ w'.cell? ⟨w.heap.size, 5, none⟩ = some (.int .i8 k) ∧ w'.cell? ⟨w.heap.size, 6, none⟩ = some (.string s) ∧ w'.cell? ⟨w.heap.size, 7, none⟩ = some (.slice da dl dc) ∧ w'.cell? ⟨w.heap.size, 8, none⟩ = some (.slice aa al ac) ∧ w'.cell? ⟨w.heap.size, 9, none⟩ = some (.int .i32 ver) ∧ w'.cell? ⟨w.heap.size, 10, none⟩ = some (.bool eph) ∧ w'.cell? ⟨w.heap.size, 11, none⟩ = some (.bool seq) ∧ w'.cell? ⟨w.heap.size, 12, none⟩ = some (.int .i64 ses) ∧ w'.cell? ⟨w.heap.size, 13, none⟩ = some (.int .i32 tmo) ∧ w'.cell? ⟨w.heap.size, 14, none⟩ = some (.slice wa wl wc) ∧ w'.cell? ⟨w.heap.size, 15, none⟩ = some (.slice oa ol oc)) (first | exact k6 | exact k7 | exact k8)
    (first
    | (go_at_call 124; refine (proposed_any _).mono ?_; rintro r w7 ⟨rfl, b7⟩; have HP7 : Hid (Puts V w1.heap.size (.slice none 0 0) (headB e n sv bt nm) w7) := HP6.out.later b7; have k7 := HC.out _ _ HP7.out; clear b7 HP6 k6)
    | (go_at_call 126; obtain ⟨v1, hW, hN, hK⟩ := HP7.out; refine (HPT.out _ w1.heap.size v1 _ (HB.out _ _ HP7.out) hW ?_ ?_ ?_).mono ?_; (simp [headB, be4, be8]); (exact HB1.out.size); (exact fun j hj => HR.out _ j hN hj); rintro r w8 ⟨rfl, hp⟩; have HP8 : Hid (Puts V w1.heap.size (.slice none 0 0) (headB e n sv bt nm ++ E) w8) := Puts.next hN hK hp; have k8 := HC.out _ _ HP8.out; clear hp hW hN hK HP7 k7))
  go_wp2_with fail
  obtain ⟨v1, hW, hN, hK⟩ := HP8.out
  refine (wBytes_any w1.heap.size v1 _ _ hW (by simp [headB, be4, be8]; omega)).mono ?_
  rintro r w9 ⟨vr, rfl, ho, b9⟩
  have h8 := HB.out _ _ HP8.out
  have HF : Hid (Owns w9 w.heap.size vr (headB e n sv bt nm ++ E) ∧ Below w.heap.size w w9) := ⟨owns_mono ho h8.size, h8.trans (b9.mono h8.size)⟩
  clear hW hN hK HP8 k8 b9 h8 ho
  go_wp2
  go_ret2
  exact ⟨_, rfl, HF.out⟩
end Go.Proofs.YtgeoocchdpehdaaGreatDoor

namespace Go.Proofs.YtgeoocchdpehdaaGreatDoor
open Go.RowKit
set_option maxRecDepth 8000

end Go.Proofs.YtgeoocchdpehdaaGreatDoor

namespace Go.Proofs.YtgeoocchdpehdaaGreatDoor
open Go.RowKit
set_option maxRecDepth 8000

end Go.Proofs.YtgeoocchdpehdaaGreatDoor

namespace Go.Proofs.YtgeoocchdpehdaaGreatDoor
open Go.RowKit
set_option maxRecDepth 8000

abbrev rq0 (k : Int) (s : ByteArray) (ver ses : Int) : Array Value := #[.int .i8 k, .string s, .slice none 0 0, .slice none 0 0, .int .i32 ver, .bool false, .bool false, .int .i64 ses, .int .i32 0, .slice none 0 0, .slice none 0 0]

theorem Nam.kept {w w' : World} {S : Nat → Prop} (h : Nam w) (hk : Kept w w' S) (hn : ∀ k, k ≤ 1 → ¬ S k) : Nam w' :=
  h.below (B := 1 + 1) ⟨hk.os, hk.tape, hk.output, hk.size, fun k hk' => hk.block k (by have := h.lt; omega) (hn k (by omega))⟩ (by omega)

end Go.Proofs.YtgeoocchdpehdaaGreatDoor

namespace Go.Proofs.YtgeoocchdpehdaaGreatDoor
open Go.RowKit
set_option maxRecDepth 8000

structure RDs (w W : World) (g : Nat) (v : Value) (xs : List Int) (t : Nat) (cs : Array Value) : Prop where
  r : IsR W g v xs 0
  q : W.heap[t]? = some (.cells cs 37 (0, 0))
  o : W.heap[w.heap.size]? = some (.cells #[.int .u32 0, .int .u32 0, .int .i8 0, .int .u32 0, .int .i64 0, .int .i8 0, .string ⟨#[]⟩, .slice none 0 0, .slice none 0 0, .int .i32 0, .bool false, .bool false, .int .i64 0, .int .i32 0, .slice none 0 0, .slice none 0 0] 37 (0, 0))
  nam : Nam W
  ng : 1 < w.heap.size
  gl : w.heap.size < g
  gt : g < t
  vlt : xs ≠ [] → ∀ k, v.ownBlock = some k → w.heap.size < k ∧ k < t
  bel : Below w.heap.size w W

theorem isR_keep {w w' : World} {S : Nat → Prop} {g : Nat} {v : Value} {xs : List Int} {f : Int} (h : IsR w g v xs f) (hk : Kept w w' S) (hg : ¬ S g) (hn : xs ≠ [] → ∀ k, v.ownBlock = some k → ¬ S k) : IsR w' g v xs f := by
  refine ⟨hk.heap h.1 hg, ?_⟩
  by_cases hx : xs = []
  · obtain ⟨ao, cap, rfl, h1, h2, h0, h3⟩ := h.2
    exact ⟨ao, cap, rfl, h1, h2, h0, .inl hx⟩
  · exact h.2.kept hk (hn hx)

section
variable {w W W' : World} {g : Nat} {v : Value} {xs ys : List Int} {t : Nat} {cs : Array Value}

theorem RDs.read {n : Int} (h : RDs w W g v xs t cs) (hx : xs ≠ []) (hr : ReadsTo W g v ⟨n, ys, 0⟩ W') : ∃ v', RDs w W' g v' ys t cs := by
  obtain ⟨v', h1, h2, h3⟩ := hr
  have a := h.gl
  have b := h.gt
  exact ⟨v', h1, h3.heap h.q (by omega), h3.heap h.o (by omega), h.nam.kept h3 (fun k hk e => by have := h.ng; omega), h.ng, h.gl, h.gt, fun _ k hk => h.vlt hx k (h2 k hk), h.bel.trans (h3.below h.bel.size (fun k e => by omega))⟩

theorem RDs.got (h : RDs w W g v xs t cs) (hr : (∃ v', IsR W' g v' [] 0) ∧ Kept W W' (· = g)) : ∃ v', RDs w W' g v' [] t cs := by
  obtain ⟨⟨v', h1⟩, h3⟩ := hr
  have a := h.gl
  have b := h.gt
  exact ⟨v', h1, h3.heap h.q (by omega), h3.heap h.o (by omega), h.nam.kept h3 (fun k hk e => by have := h.ng; omega), h.ng, h.gl, h.gt, fun hx => absurd rfl hx, h.bel.trans (h3.below h.bel.size (fun k e => by omega))⟩

theorem RDs.later (h : RDs w W g v xs t cs) (hb : Below W.heap.size W W') : RDs w W' g v xs t cs := by
  have hk := Below.kept hb
  have hs := h.bel.size
  have a := h.gl
  have b := h.gt
  have c := lt_of_block h.q
  exact ⟨isR_keep h.r hk (by omega) (fun hx k hk' => by have := h.vlt hx k hk'; omega), hk.heap h.q (by omega), hk.heap h.o (by omega), h.nam.below hb h.nam.lt, h.ng, h.gl, h.gt, h.vlt, h.bel.trans (hb.mono hs)⟩

theorem RDs.set (h : RDs w W g v xs t cs) (j : Nat) (u : Value) : RDs w (W.setCell ⟨t, j, none⟩ u) g v xs t (cs.setIfInBounds j u) := by
  have a := h.gl
  have b := h.gt
  have hk : Kept W (W.setCell ⟨t, j, none⟩ u) (fun k => k = t) := (Kept.refl W (fun k => k = t)).setCell _ _ (fun _ => rfl)
  refine ⟨isR_keep h.r hk (by omega) (fun hx k hk' => by have := h.vlt hx k hk'; omega), ?_, hk.heap h.o (by omega), h.nam.kept hk (fun k hk' e => by have := h.ng; omega), h.ng, h.gl, h.gt, h.vlt, h.bel.trans (hk.below h.bel.size (fun k e => by omega))⟩
  rw [heap_setCell_same W t j _ _ _ h.q]

theorem RDs.cell (h : RDs w W g v xs t cs) (j : Nat) : W.cell? ⟨t, j, none⟩ = cs[j]? := by
  rw [cell_of_row W t j _ _ _ h.q]
theorem RDs.fr (h : RDs w W g v xs t cs) (j : Nat) : W.frozen? ⟨t, j, none⟩ = false := frozen_of_row W t j _ _ h.q
end

end Go.Proofs.YtgeoocchdpehdaaGreatDoor
