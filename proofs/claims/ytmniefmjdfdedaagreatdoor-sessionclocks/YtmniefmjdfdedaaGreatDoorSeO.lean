/- What a clock's All answers. -/
import Derived.Test.YtmniefmjdfdedaaGreatDoorSeF
import Derived.Test.YtmniefmjdfdedaaGreatDoorSeN
namespace Go.Proofs.YtmniefmjdfdedaaGreatDoor
open Go.RowKit Go.Shelf
set_option maxRecDepth 8000
set_option linter.unusedSimpArgs false

def ss1 (x : LfT) : Int × Int := (x.1, x.2.1)
/-- All's loop. -/
structure AlR (w wr : World) (m r : Nat) (l : List LfT) (v : Value) (done : List LfT) : Prop where
  nd : done.Nodup
  sub : ∀ x ∈ done, x ∈ l
  rg : Rg wr m r l done
  ow : OS wr w.heap.size v (done.map ss1)
  kp : Below w.heap.size w wr
theorem AlR.drewN {w wr : World} {m r : Nat} {l : List LfT} {v : Value} {done : List LfT} (h : AlR w wr m r l v done) (n : Nat) : AlR w (wr.drewN n) m r l v done := ⟨h.nd, h.sub, h.rg, h.ow, ⟨h.kp.os, h.kp.tape, h.kp.output, h.kp.size, h.kp.block⟩⟩
/-- What All tells. -/
def allL (l : List LfT) : List (Int × Int) := srtS (l.map ss1)
theorem ss1_ids (l : List LfT) : (l.map ss1).map (·.1) = ids l := by simp [ids, ss1, Function.comp_def]
theorem all_end {l done : List LfT} (hn : (ids l).Nodup) (h : done.Perm l) : srtS (done.map ss1) = allL l :=
  srtS_is (by rw [ss1_ids]; exact hn) ((List.mergeSort_perm _ _).trans (h.map _)) (srtS_up _)

set_option maxHeartbeats 2000000 in
theorem all_any {w : World} {c m s : Nat} {t span : Int} {l : List LfT} (h : Ck w c m s t span l) (hnd : (ids l).Nodup) (hl : l.length ≤ 1000) :
    Calls Tryz.prog 23 #[.pointer (some ⟨c, 0, none⟩)] w fun e w' => ∃ u, e = .returned u ∧ OS w' w.heap.size u (allL l) ∧ Below w.heap.size w w' := by
  have HN : Hid _ := isNone_no h
  have HH : Hid ((ids l).Nodup ∧ l.length ≤ 1000 ∧ m < w.heap.size) := ⟨hnd, hl, h.hm.lt⟩
  have c0 := h.c0
  have c1 := h.c1
  have hz := lt_of_block h.hc
  obtain ⟨W1, hrn, hrg, hB1, hs2⟩ := rg_start h.hm
  have HR : Hid (AlR w W1 m w.heap.size l (.slice none 0 0) []) := ⟨List.nodup_nil, by simp, hrg, World.ownsRow_nil _ _ _ _, hB1⟩
  clear h hnd hl hrg hB1 hs2
  go_enter Tryz.func23, Tryz.ntmps23
  go_wp2_with fail
  refine Calls.mono HN.out ?_
  rintro e w1 ⟨rfl, hw1⟩
  rw [hw1]
  clear hw1 HN
  go_wp2
  clear hrn c0 c1 hz
  go_loopw [3] (fun v3 wr => ∃ done, Hid (AlR w wr m w.heap.size l v3 done)) (fun _ wr => wr.rangeLeft m w.heap.size)
  case atStart => exact ⟨[], HR⟩
  case round =>
    obtain ⟨done, HD⟩ := hrel
    clear HR
    obtain ⟨uo, un, uc, huu⟩ : ∃ a n c, u3 = .slice a n c := by
      obtain ⟨a, c, e⟩ := rowS HD.out.ow
      exact ⟨a, _, c, e⟩
    have hlen : (done.map ss1).length ≤ 2000000000 := by
      rw [List.length_map]
      have := nodup_len HD.out.nd HD.out.sub
      have := HH.out.2.1
      omega
    rcases rg_next HD.out.rg (nodup_ids HH.out.1) 0 with ⟨hl0, hall, hnx⟩ | ⟨x, w2, hx1, hx2, hnx, hrg2, hlt, hk2, hs2, hen⟩
    · have hp := done_perm (nodup_ids HH.out.1) HD.out.nd HD.out.sub hall
      have HS : Hid (Calls Tryz.prog 33 #[u3, .func (.func 34) #[] #[]] wr fun e w' => e = .returned (.tuple #[]) ∧ Hid (OS w' w.heap.size u3 (allL l) ∧ Below w.heap.size w w')) := by
        refine (sort_s HD.out.ow hlen (by rw [ss1_ids]; exact (hp.map _).nodup_iff.2 HH.out.1)).mono (fun e w' hh => ⟨hh.1, ?_, ?_⟩)
        · have := hh.2.1
          rwa [all_end HH.out.1 hp] at this
        · exact HD.out.kp.trans (hh.2.2.below HD.out.kp.size (fun k hk => (HD.out.ow.lt k hk).1))
      subst huu
      clear HD HH hp hall hlen
      go_wp2_with fail
      go_at_call 33
      refine Calls.mono HS.out ?_
      rintro e w4 ⟨rfl, HE⟩
      clear HS
      go_wp2
      all_goals (go_ret; exact ⟨_, rfl, HE.out⟩)
    · obtain ⟨xi, xt, xd⟩ := x
      have hnx2 : (Instr.next (.pointer (some ⟨w.heap.size, 0, none⟩)) false 0).run Tryz.prog wr = .ok (.tuple #[.bool true, .int .i64 xi, .agg #[.int .i32 xt, .int .i64 xd]]) w2 := hnx
      have hen2 : (Instr.entry (.pointer (some ⟨w.heap.size, 0, none⟩))).run Tryz.prog w2 = .ok (.tuple #[.int .i64 xi, .agg #[.int .i32 xt, .int .i64 xd]]) w2 := hen
      obtain ⟨v', w5, hap, ⟨vo, vn, vc, hvv⟩, HN⟩ : ∃ v' w5, (∀ ty, (Builtin.append_ #[49, 49] ty #[u3, .slice (some ⟨w2.heap.size + 1, 0, none⟩) 1 1]).run Tryz.prog ((w2.alloc (.cells #[.int .i32 xt, .int .i64 xd] 86)).alloc (.cells #[.int .i64 xi, .int .i32 xt] 93)) = .ok v' w5) ∧
          (∃ a n c, v' = .slice a n c) ∧ Hid (AlR w w5 m w.heap.size l v' (done ++ [(xi, xt, xd)]) ∧ w5.rangeLeft m w.heap.size < wr.rangeLeft m w.heap.size) := by
        have nd2 : (done ++ [(xi, xt, xd)]).Nodup := by
          rw [List.nodup_append]
          refine ⟨HD.out.nd, by simp, ?_⟩
          intro a ha b hb e
          simp at hb
          rw [e, hb] at ha
          exact hx2 ha
        have sub2 : ∀ y ∈ done ++ [(xi, xt, xd)], y ∈ l := fun y hy => by
          rcases List.mem_append.1 hy with hy | hy
          · exact HD.out.sub y hy
          · simp at hy
            rw [hy]
            exact hx1
        have rg2 := hrg2.same (d' := done ++ [(xi, xt, xd)]) (fun y => by simp [or_comm])
        have ow2 : OS w2 w.heap.size u3 (done.map ss1) := rowK HD.out.ow hk2 (rg_notRow HD.out.rg HD.out.ow)
        have kp2 : Below w.heap.size w w2 := HD.out.kp.trans (hk2.below HD.out.kp.size (fun k e => by omega))
        obtain ⟨V, hV⟩ : ∃ V, V = w2.alloc (.cells #[.int .i32 xt, .int .i64 xd] 86) := ⟨_, rfl⟩
        have hVs : V.heap.size = w2.heap.size + 1 := by rw [hV]; simp
        have B3 : Below w2.heap.size w2 (w2.alloc (.cells #[.int .i32 xt, .int .i64 xd] 86)) := (Below.refl _ _).alloc (Nat.le_refl _) _
        have BV : Below w2.heap.size w2 V := by rw [hV]; exact B3
        rw [← hV]
        clear hV B3
        have B4 : Below w2.heap.size w2 (V.alloc (.cells #[.int .i64 xi, .int .i32 xt] 93)) := BV.alloc BV.size _
        have bx4 : (V.alloc (.cells #[.int .i64 xi, .int .i32 xt] 93)).heap[w2.heap.size + 1]? = some (.cells #[.int .i64 xi, .int .i32 xt] 93 (0, 0)) := by rw [← hVs]; exact heap_alloc_new _ _
        have rg4 := rg2.kept (Below.kept B4) (by have := rg2.map.lt; omega) (by have := rg2.lt; omega)
        have ow4 : OS (V.alloc (.cells #[.int .i64 xi, .int .i32 xt] 93)) w.heap.size u3 (done.map ss1) := rowK ow2 (Below.kept B4) (fun k hk => by have := (ow2.lt k hk).2; omega)
        have kp4 : Below w.heap.size w (V.alloc (.cells #[.int .i64 xi, .int .i32 xt] 93)) := kp2.trans (B4.mono kp2.size)
        obtain ⟨v', w5, hap, ow5, kp5⟩ := app_s (x := (xi, xt)) ow4 bx4 hlen kp4.size
        have hro : ∀ k, u3.ownBlock = some k → w.heap.size ≤ k := fun k hk => (HD.out.ow.lt k hk).1
        have hnr : ¬ u3.ownBlock = some w.heap.size := fun q => rg_notRow rg4 ow4 _ q rfl
        have hnm : ¬ u3.ownBlock = some m := fun q => by have := hro m q; have := HH.out.2.2; omega
        refine ⟨v', w5, hap, ?_, ⟨nd2, sub2, rg4.kept kp5 hnm hnr, ?_, kp4.trans (kp5.below kp4.size hro)⟩, ?_⟩
        · obtain ⟨a, c, e⟩ := rowS ow5
          exact ⟨a, _, c, e⟩
        · rw [List.map_append]
          exact ow5
        · have e1 : w5.rangeLeft m w.heap.size = w2.rangeLeft m w.heap.size := by
            unfold World.rangeLeft
            rw [kp5.block _ rg4.lt hnr, kp5.block _ rg4.map.lt hnm, (Below.kept B4).block _ rg2.lt (by have := rg2.lt; omega), (Below.kept B4).block _ rg2.map.lt (by have := rg2.map.lt; omega)]
          omega
      have hz2 : w.heap.size < w2.heap.size := hrg2.lt
      subst huu
      subst hvv
      clear HD hx1 hx2 hnx hrg2 hlt hk2 hs2 hen HH hlen
      go_wp2_with (at_builtin; refine Lib.wpList_append_run_sl _ rfl _ _ 49 rfl _ _ rfl rfl (hap _) ?_)
      go_roundw
      case rel => exact ⟨_, HN.out.1⟩
      case measure => exact HN.out.2

end Go.Proofs.YtmniefmjdfdedaaGreatDoor
