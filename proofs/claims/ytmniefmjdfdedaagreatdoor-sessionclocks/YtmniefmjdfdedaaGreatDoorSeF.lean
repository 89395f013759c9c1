/- What a clock's Tick answers. -/
import Derived.Test.YtmniefmjdfdedaaGreatDoorSeD
import Derived.Test.YtmniefmjdfdedaaGreatDoorSeE
import Derived.Lib.SlFresh
namespace Go.Proofs.YtmniefmjdfdedaaGreatDoor
open Go.RowKit Go.Shelf
set_option maxRecDepth 8000
set_option linter.unusedSimpArgs false

def dueB (T : Int) (x : LfT) : Bool := x.2.2 == T
/-- The sessions while a Tick goes over them: those that are due and have come are gone. -/
def curL (l : List LfT) (T : Int) (done : List LfT) : List LfT := l.filter (fun x => !(dueB T x && decide (x ∈ done)))
theorem curL_nil (l : List LfT) (T : Int) : curL l T [] = l := List.filter_eq_self.2 (fun x _ => by simp)
theorem curL_no {l : List LfT} {T : Int} {done : List LfT} {x : LfT} (h : dueB T x = false) : curL l T (done ++ [x]) = curL l T done := by
  refine List.filter_congr (fun y _ => ?_)
  by_cases e : y = x
  · subst e; simp [h]
  · simp [e]
theorem nodup_ids : ∀ {l : List LfT}, (ids l).Nodup → l.Nodup
  | [], _ => List.nodup_nil
  | x :: r, h => by
    simp only [ids, List.map_cons, List.nodup_cons] at h
    exact List.nodup_cons.2 ⟨fun hm => h.1 (List.mem_map.2 ⟨x, hm, rfl⟩), nodup_ids h.2⟩
theorem curL_sub {l : List LfT} {T : Int} {done : List LfT} : (curL l T done).Sublist l := List.filter_sublist
theorem curL_nd {l : List LfT} {T : Int} {done : List LfT} (h : (ids l).Nodup) : (ids (curL l T done)).Nodup := h.sublist (curL_sub.map _)
theorem curL_yes {l a b : List LfT} {T : Int} {done : List LfT} {x : LfT} (hnd : (ids l).Nodup) (h : dueB T x = true) (he : curL l T done = a ++ x :: b) : curL l T (done ++ [x]) = a ++ b := by
  have h1 : curL l T (done ++ [x]) = (curL l T done).filter (fun y => !(y.1 == x.1)) := by
    unfold curL
    rw [List.filter_filter]
    refine List.filter_congr (fun y hy => ?_)
    have hx : x ∈ l := curL_sub.subset (by rw [he]; simp)
    have e1 : (y.1 == x.1) = decide (y = x) := by
      by_cases e : y = x
      · subst e; simp
      · have : y.1 ≠ x.1 := fun q => e (by
          obtain ⟨i, hi⟩ := List.getElem?_of_mem hy
          obtain ⟨j, hj⟩ := List.getElem?_of_mem hx
          have := nodup_at (fun z : LfT => z.1) hnd hi hj q
          subst this
          rw [hi] at hj
          exact Option.some.inj hj)
        simp [e, this]
    rw [e1]
    by_cases e : y = x
    · subst e; simp [h]
    · simp [e]
  rw [h1, he]
  exact remL_mid (by rw [← he]; exact curL_nd hnd)
theorem cur_all {l : List LfT} {T : Int} {done : List LfT} (h : ∀ x ∈ curL l T done, x ∈ done) : ∀ x ∈ l, x ∈ done := fun x hx => by
  by_cases q : x ∈ done
  · exact q
  · exact h x (List.mem_filter.2 ⟨hx, by simp [q]⟩)
/-- What is left. -/
def goL (l : List LfT) (T : Int) : List LfT := l.filter (fun x => !dueB T x)
/-- What is told. -/
def tolL (l : List LfT) (T : Int) : List Int := srt (ids (l.filter (dueB T)))
theorem cur_end {l : List LfT} {T : Int} {done : List LfT} (h : ∀ x ∈ l, x ∈ done) : curL l T done = goL l T := by
  refine List.filter_congr (fun y hy => ?_)
  simp [h y hy]
theorem done_perm {l done : List LfT} (h1 : l.Nodup) (h2 : done.Nodup) (h3 : ∀ x ∈ done, x ∈ l) (h4 : ∀ x ∈ l, x ∈ done) : done.Perm l :=
  (List.perm_ext_iff_of_nodup h2 h1).2 (fun x => ⟨h3 x, h4 x⟩)
theorem tol_end {l done : List LfT} {T : Int} (h : done.Perm l) : srt (ids (done.filter (dueB T))) = tolL l T := srt_perm ((h.filter _).map _)

theorem Rg.same {w : World} {m r : Nat} {l d d' : List LfT} (h : Rg w m r l d) (e : ∀ x, x ∈ d ↔ x ∈ d') : Rg w m r l d' := by
  obtain ⟨es, clock, s, sn, c, a1, a2, a3, a4, a5, a6, a7, a8⟩ := h
  exact ⟨es, clock, s, sn, c, a1, a2, a3, a4, a5, a6, a7, fun i e1 x h1 h2 => (a8 i e1 x h1 h2).trans (e x)⟩
theorem rg_notRow {w : World} {m r : Nat} {l d : List LfT} {base : Nat} {T : TypeId} {z n : Nat} {v : Value} {xs : List Value} (h : Rg w m r l d) (ho : w.ownsRow base T z v n xs) : ∀ g, v.ownBlock = some g → ¬ g = r := fun g hg e => by
  obtain ⟨es, clock, s, sn, c, a1, a2, a3, a4, _⟩ := h
  obtain ⟨cs, q⟩ := rowT ho hg
  rw [e, a4] at q
  cases q

/-- The tick's cell set. -/
theorem Ck.tick {w : World} {c m s : Nat} {t span : Int} {l : List LfT} (h : Ck w c m s t span l) (t' : Int) : Ck (w.setCell ⟨c, 0, none⟩ (.int .i64 t')) c m s t' span l ∧ Kept w (w.setCell ⟨c, 0, none⟩ (.int .i64 t')) (fun k => k = c) ∧ (w.setCell ⟨c, 0, none⟩ (.int .i64 t')).heap.size = w.heap.size := by
  have hks : Kept w (w.setCell ⟨c, 0, none⟩ (.int .i64 t')) (fun k => k = c) := (Kept.refl w _).setCell _ _ (fun _ => rfl)
  have hne := h.ne
  refine ⟨⟨?_, hks.heap h.hs (Ne.symm hne.2.1), h.hm.kept hks (Ne.symm hne.1)⟩, hks, by simp [World.setCell]⟩
  rw [setCell_eq_setRow w c 0 _ _ _ _ h.hc, setRow_heap w c _ _ _ _ h.hc]; rfl

theorem nodup_len : ∀ {d l : List LfT}, d.Nodup → (∀ x ∈ d, x ∈ l) → d.length ≤ l.length
  | [], _, _, _ => Nat.zero_le _
  | x :: r, l, hn, hs => by
    obtain ⟨h1, h2⟩ := List.nodup_cons.1 hn
    have hx := hs x (by simp)
    have := nodup_len (l := l.erase x) h2 (fun y hy => (List.mem_erase_of_ne (fun e => h1 (by rw [← e]; exact hy))).2 (hs y (by simp [hy])))
    rw [List.length_erase_of_mem hx] at this
    have := List.length_pos_of_mem hx
    simp only [List.length_cons]
    omega

/-- A Tick's loop: who has come, the map, the list that is told, the rest of memory. -/
structure TkR (w W0 wr : World) (c m s r : Nat) (T span : Int) (l : List LfT) (v : Value) (done : List LfT) : Prop where
  nd : done.Nodup
  sub : ∀ x ∈ done, x ∈ l
  rg : Rg wr m r (curL l T done) done
  ow : OI wr w.heap.size v (ids (done.filter (dueB T)))
  kp : Kept W0 wr (fun k => k = m)

theorem TkR.drewN {w W0 wr : World} {c m s r : Nat} {T span : Int} {l : List LfT} {v : Value} {done : List LfT} (h : TkR w W0 wr c m s r T span l v done) (n : Nat) : TkR w W0 (wr.drewN n) c m s r T span l v done := ⟨h.nd, h.sub, h.rg, h.ow, h.kp.drewN n⟩

set_option maxHeartbeats 2000000 in
theorem tick_any {w : World} {c m s : Nat} {t span : Int} {l : List LfT} (h : Ck w c m s t span l) (hnd : (ids l).Nodup) (hl : l.length ≤ 1000) (h3 : 0 ≤ t) (h4 : t ≤ 4000000000000000000) :
    Calls Tryz.prog 10 #[.pointer (some ⟨c, 0, none⟩)] w fun e w' => ∃ u, e = .returned u ∧ OI w' w.heap.size u (tolL l (t + 1)) ∧ Ck w' c m s (t + 1) span (goL l (t + 1)) ∧ Kept w w' (TuC c m) := by
  have HN : Hid _ := isNone_no h
  have HH : Hid (Ck w c m s t span l ∧ (ids l).Nodup ∧ l.length ≤ 1000) := ⟨h, hnd, hl⟩
  have c0 := h.c0
  have c1 := h.c1
  have hz := lt_of_block h.hc
  have fz : w.frozen? ⟨c, 0, none⟩ = false := by simp [World.frozen?, h.hc]
  obtain ⟨h1, hk1, hs1⟩ := h.tick (t + 1)
  obtain ⟨W0, hW0⟩ : ∃ W0, W0 = w.setCell ⟨c, 0, none⟩ (.int .i64 (t + 1)) := ⟨_, rfl⟩
  rw [← hW0] at h1 hk1 hs1
  obtain ⟨W1, hrn, hrg, hB1, hs2⟩ := rg_start h1.hm
  rw [hs1] at hrn hrg hB1 hs2
  have d1 := h1.c1
  have hrn2 : (Instr.range 46 (.map (some m))).run Tryz.prog (w.setCell ⟨c, 0, none⟩ (.int .i64 (t + 1))) = .ok (.pointer (some ⟨w.heap.size, 0, none⟩)) W1 := by rw [← hW0]; exact hrn
  have HR : Hid (TkR w W0 W1 c m s w.heap.size (t + 1) span l (.slice none 0 0) []) := by
    refine ⟨List.nodup_nil, by simp, by rw [curL_nil]; exact hrg, World.ownsRow_nil _ _ _ _, ?_⟩
    exact (Below.kept hB1).mono (fun k q1 q2 => by rw [hs1] at q1; omega)
  have H1 : Hid (Ck W0 c m s (t + 1) span l ∧ Kept w W0 (fun k => k = c) ∧ W0.heap.size = w.heap.size) := ⟨h1, hk1, hs1⟩
  clear h hnd hl h1 hk1 hs1 hrn hrg hB1 hs2 d1 hW0
  go_enter Tryz.func10, Tryz.ntmps10
  go_wp2_with fail
  refine Calls.mono HN.out ?_
  rintro e w1 ⟨rfl, hw1⟩
  rw [hw1]
  clear hw1 HN
  go_wp2
  clear hrn2 c0 c1 fz hz
  go_loopw [3] (fun v3 wr => ∃ done, Hid (TkR w W0 wr c m s w.heap.size (t + 1) span l v3 done)) (fun _ wr => wr.rangeLeft m w.heap.size)
  case atStart => exact ⟨[], HR⟩
  case round =>
    obtain ⟨done, HD⟩ := hrel
    clear HR
    have hcn := HH.out.1.ne
    have hmz := HH.out.1.hm.lt
    rcases rg_next HD.out.rg (nodup_ids (curL_nd HH.out.2.1)) 0 with ⟨hl0, hall, hnx⟩ | ⟨x, w2, hx1, hx2, hnx, hrg2, hlt, hk2, hs2, hen⟩
    · have hp := done_perm (nodup_ids HH.out.2.1) HD.out.nd HD.out.sub (cur_all hall)
      have HS : Hid (Calls Tryz.prog 29 #[u3] wr fun e w' => e = .returned (.tuple #[]) ∧ Hid (OI w' w.heap.size u3 (tolL l (t + 1)) ∧ Ck w' c m s (t + 1) span (goL l (t + 1)) ∧ Kept w w' (TuC c m))) := by
        have hlen : (ids (done.filter (dueB (t + 1)))).length ≤ 2000000000 := by
          unfold ids
          rw [List.length_map]
          have := nodup_len HD.out.nd HD.out.sub
          have := HH.out.2.2
          exact Nat.le_trans (List.length_filter_le _ _) (by omega)
        refine (sort_i HD.out.ow hlen).mono (fun e w' hh => ⟨hh.1, ?_, ?_, ?_⟩)
        · have := hh.2.1
          rwa [tol_end hp] at this
        · have hge : ∀ k, u3.ownBlock = some k → w.heap.size ≤ k := fun k hk => (HD.out.ow.lt k hk).1
          have q : Ck wr c m s (t + 1) span (goL l (t + 1)) := by
            refine ⟨HD.out.kp.heap H1.out.1.hc hcn.1, HD.out.kp.heap H1.out.1.hs (Ne.symm hcn.2.2), ?_⟩
            have := HD.out.rg.map
            rwa [cur_end (cur_all hall)] at this
          refine q.kept hh.2.2 (fun k hf hk => ?_)
          have := hge k hk
          have := HH.out.1.lt hf
          omega
        · refine ((H1.out.2.1.mono (fun k _ e => .inl e)).trans HD.out.kp (fun k _ e => .inr e)).trans hh.2.2 (fun k hk hs => ?_)
          have := (HD.out.ow.lt k hs).1
          omega
      obtain ⟨uo, un, uc, huu⟩ : ∃ a n c, u3 = .slice a n c := by
        obtain ⟨a, c, e⟩ := rowS HD.out.ow
        exact ⟨a, _, c, e⟩
      subst huu
      clear HD H1 HH hp hall hcn hmz
      go_wp2_with fail
      go_at_call 29
      refine Calls.mono HS.out ?_
      rintro e w4 ⟨rfl, HE⟩
      clear HS
      go_wp2
      all_goals (go_ret; exact ⟨_, rfl, HE.out⟩)
    · obtain ⟨xi, xt, xd⟩ := x
      have hnx2 : (Instr.next (.pointer (some ⟨w.heap.size, 0, none⟩)) false 0).run Tryz.prog wr = .ok (.tuple #[.bool true, .int .i64 xi, .agg #[.int .i32 xt, .int .i64 xd]]) w2 := hnx
      have hen2 : (Instr.entry (.pointer (some ⟨w.heap.size, 0, none⟩))).run Tryz.prog w2 = .ok (.tuple #[.int .i64 xi, .agg #[.int .i32 xt, .int .i64 xd]]) w2 := hen
      have hr0 : W0.heap.size ≤ w2.heap.size := by rw [hs2]; exact HD.out.kp.size
      have hrr : w.heap.size < w2.heap.size := hrg2.lt
      have kp2 : Kept W0 w2 (fun k => k = m) := HD.out.kp.trans hk2 (fun k q1 q2 => by have := H1.out.2.2; omega)
      have ow2 : OI w2 w.heap.size u3 (ids (done.filter (dueB (t + 1)))) := rowK HD.out.ow hk2 (rg_notRow HD.out.rg HD.out.ow)
      have c0 : w2.cell? ⟨c, 0, none⟩ = some (.int .i64 (t + 1)) := kp2.cell H1.out.1.c0 hcn.1
      have c1 : w2.cell? ⟨c, 1, none⟩ = some (.map (some m)) := kp2.cell H1.out.1.c1 hcn.1
      have hz : c < w2.heap.size := World.block_lt_of_cell? w2 _ c0
      have nd2 : (done ++ [(xi, xt, xd)]).Nodup := by
        rw [List.nodup_append]
        refine ⟨HD.out.nd, by simp, ?_⟩
        intro a ha b hb e
        simp at hb
        rw [e, hb] at ha
        exact hx2 ha
      have sub2 : ∀ y ∈ done ++ [(xi, xt, xd)], y ∈ l := fun y hy => by
        rcases List.mem_append.1 hy with hy | hy
        · exact HD.out.sub y hy
        · simp at hy
          rw [hy]
          exact curL_sub.subset hx1
      have rg2 := hrg2.same (d' := done ++ [(xi, xt, xd)]) (fun y => by simp [or_comm])
      have B3 : Below w2.heap.size w2 (w2.alloc (.cells #[.int .i32 xt, .int .i64 xd] 86)) := (Below.refl _ _).alloc (Nat.le_refl _) _
      have rg3 := rg2.kept (Below.kept B3) (by have := HD.out.rg.map.lt; omega) (by omega)
      have ow3 := rowK ow2 (Below.kept B3) (fun k hk => by have := (ow2.lt k hk).2; omega)
      have kp3 : Kept W0 (w2.alloc (.cells #[.int .i32 xt, .int .i64 xd] 86)) (fun k => k = m) := kp2.alloc _
      have bx : (w2.alloc (.cells #[.int .i32 xt, .int .i64 xd] 86)).heap[w2.heap.size]? = some (.cells #[.int .i32 xt, .int .i64 xd] 86 (0, 0)) := heap_alloc_new _ _
      have rl3 : (w2.alloc (.cells #[.int .i32 xt, .int .i64 xd] 86)).rangeLeft m w.heap.size = w2.rangeLeft m w.heap.size := by
        unfold World.rangeLeft
        rw [Below.heap_alloc _ _ _ hrr, Below.heap_alloc _ _ _ (by omega)]
      cases hd : dueB (t + 1) (xi, xt, xd)
      · have hcmp : (xd == t + 1) = false := hd
        have HN : Hid (TkR w W0 (w2.alloc (.cells #[.int .i32 xt, .int .i64 xd] 86)) c m s w.heap.size (t + 1) span l u3 (done ++ [(xi, xt, xd)]) ∧ (w2.alloc (.cells #[.int .i32 xt, .int .i64 xd] 86)).rangeLeft m w.heap.size < wr.rangeLeft m w.heap.size) := by
          refine ⟨⟨nd2, sub2, by rw [curL_no hd]; exact rg3, ?_, kp3⟩, by rw [rl3]; exact hlt⟩
          rw [List.filter_append, show [(xi, xt, xd)].filter (dueB (t + 1)) = [] by simp [hd], List.append_nil]
          exact ow3
        clear HD hx1 hx2 hnx hrg2 hlt hk2 hs2 hen hr0 hrr kp2 ow2 nd2 sub2 rg2 B3 rg3 ow3 kp3 bx rl3 hd HH H1 hcn hmz
        go_wp2
        go_quiet (fail)
        go_wp2
        go_roundw
        case rel => exact ⟨_, HN.out.1.drewN _⟩
        case measure => exact HN.out.2
      · have hcmp : (xd == t + 1) = true := hd
        obtain ⟨a, b, hab⟩ := List.append_of_mem hx1
        have hna : xi ∉ ids a := by
          have := curL_nd (T := t + 1) (done := done) HH.out.2.1
          rw [hab] at this
          unfold ids at this ⊢
          rw [List.map_append, List.map_cons, List.nodup_append] at this
          exact fun hm => this.2.2 _ hm _ (by simp) rfl
        have g0 : (w2.alloc (.cells #[.int .i32 xt, .int .i64 xd] 86)).cell? ⟨c, 1, none⟩ = some (.map (some m)) := kp3.cell H1.out.1.c1 hcn.1
        have HK : ∀ nq : Nat, ∃ v' w5 w6, (∀ ty, (Builtin.append_ #[42, 42] ty #[u3, .slice (some ⟨w2.heap.size + 1, 0, none⟩) 1 1]).run Tryz.prog (((w2.alloc (.cells #[.int .i32 xt, .int .i64 xd] 86)).drewN nq).alloc (.cells #[.int .i64 xi] 2)) = .ok v' w5) ∧
            w5.cell? ⟨c, 1, none⟩ = some (.map (some m)) ∧ c < w5.heap.size ∧ (∀ ty, (Builtin.delete_ #[46, 2] ty #[.map (some m), .int .i64 xi]).run Tryz.prog w5 = .ok (.tuple #[]) w6) ∧ (∃ a n c, v' = .slice a n c) ∧
            Hid (TkR w W0 w6 c m s w.heap.size (t + 1) span l v' (done ++ [(xi, xt, xd)]) ∧ w6.rangeLeft m w.heap.size < wr.rangeLeft m w.heap.size) := by
          intro nq
          obtain ⟨V, hV⟩ : ∃ V, V = (w2.alloc (.cells #[.int .i32 xt, .int .i64 xd] 86)).drewN nq := ⟨_, rfl⟩
          have hVs : V.heap.size = w2.heap.size + 1 := by rw [hV]; simp [World.drewN]
          have rgV : Rg V m w.heap.size (curL l (t + 1) done) (done ++ [(xi, xt, xd)]) := by rw [hV]; exact rg3
          have owV : OI V w.heap.size u3 (ids (done.filter (dueB (t + 1)))) := by rw [hV]; exact ow3
          have kpV : Kept W0 V (fun k => k = m) := by rw [hV]; exact kp3.drewN _
          have rlV : V.rangeLeft m w.heap.size = w2.rangeLeft m w.heap.size := by rw [hV]; exact rl3
          rw [← hV]
          clear hV
          have B4 : Below V.heap.size V (V.alloc (.cells #[.int .i64 xi] 2)) := (Below.refl _ _).alloc (Nat.le_refl _) _
          have rg4 := rgV.kept (Below.kept B4) (by have := rgV.map.lt; omega) (by have := rgV.lt; omega)
          have ow4 := rowK owV (Below.kept B4) (fun k hk => by have := (owV.lt k hk).2; omega)
          have kp4 : Kept W0 (V.alloc (.cells #[.int .i64 xi] 2)) (fun k => k = m) := kpV.alloc _
          have bx4 : (V.alloc (.cells #[.int .i64 xi] 2)).heap[w2.heap.size + 1]? = some (.cells #[.int .i64 xi] 2 (0, 0)) := by rw [← hVs]; exact heap_alloc_new _ _
          have rl4 : (V.alloc (.cells #[.int .i64 xi] 2)).rangeLeft m w.heap.size = V.rangeLeft m w.heap.size := by
            unfold World.rangeLeft
            rw [Below.heap_alloc _ _ _ rgV.lt, Below.heap_alloc _ _ _ rgV.map.lt]
          have hlen : (ids (done.filter (dueB (t + 1)))).length ≤ 2000000000 := by
            unfold ids
            rw [List.length_map]
            have := nodup_len HD.out.nd HD.out.sub
            have := HH.out.2.2
            exact Nat.le_trans (List.length_filter_le _ _) (by omega)
          obtain ⟨v', w5, hap, ow5, kp5, hnr⟩ := app_i (x := xi) ow4 bx4 hlen (by rw [World.size_alloc]; omega)
          have hro : ∀ k, u3.ownBlock = some k → w.heap.size ≤ k := fun k hk => (HD.out.ow.lt k hk).1
          have rg5 := rg4.kept kp5 (fun q => by have := hro m q; omega) (fun q => rg_notRow rg4 ow4 _ q rfl)
          have kp5w : Kept W0 w5 (fun k => k = m) := kp4.trans kp5 (fun k q1 q2 => by have := hro k q2; have := H1.out.2.2; omega)
          have rl5 : w5.rangeLeft m w.heap.size = (V.alloc (.cells #[.int .i64 xi] 2)).rangeLeft m w.heap.size := by
            unfold World.rangeLeft
            rw [kp5.block _ rg4.lt (fun q => rg_notRow rg4 ow4 _ q rfl), kp5.block _ rg4.map.lt (fun q => by have := hro m q; omega)]
          rw [hab] at rg5
          obtain ⟨w6, hst, rg6, kp6, rl6, _⟩ := rg_strike 0 rg5 hna
          have g5 : w5.cell? ⟨c, 1, none⟩ = some (.map (some m)) := kp5w.cell H1.out.1.c1 hcn.1
          refine ⟨v', w5, w6, hap, g5, World.block_lt_of_cell? w5 _ g5, fun ty => hst, ?_, ⟨nd2, sub2, ?_, ?_, kp5w.trans kp6 (fun _ _ q => q)⟩, ?_⟩
          · obtain ⟨a, c, e⟩ := rowS ow5
            exact ⟨a, _, c, e⟩
          · rw [curL_yes HH.out.2.1 hd hab]; exact rg6
          · rw [List.filter_append, show [(xi, xt, xd)].filter (dueB (t + 1)) = [(xi, xt, xd)] by simp [hd]]
            have e1 : ids (done.filter (dueB (t + 1)) ++ [(xi, xt, xd)]) = ids (done.filter (dueB (t + 1))) ++ [xi] := by simp [ids]
            rw [e1]
            refine rowK ow5 kp6 (fun g hg e => ?_)
            have := (ow5.lt g hg).1
            omega
          · omega
        obtain ⟨uo, un, uc, huu⟩ : ∃ a n c, u3 = .slice a n c := by
          obtain ⟨a, c, e⟩ := rowS HD.out.ow
          exact ⟨a, _, c, e⟩
        subst huu
        clear HD hx1 hx2 hnx hrg2 hlt hk2 hs2 hen hr0 hrr kp2 ow2 nd2 sub2 rg2 B3 rg3 ow3 kp3 bx rl3 hd HH H1 hcn hmz hab hna g0
        go_wp2
        go_quiet (fail)
        obtain ⟨v', w5, w6, hap, g5, hz5, hst, ⟨vo, vn, vc, rfl⟩, HN⟩ := HK nq
        clear HK
        go_upto_region 10 with (at_builtin; refine Lib.wpList_append_run_sl _ rfl _ _ 42 rfl _ _ rfl rfl (hap _) ?_)
        clear hap c0 c1 hz hnx2 hen2
        go_wp2
        go_roundw
        case rel => exact ⟨_, HN.out.1⟩
        case measure => exact HN.out.2

end Go.Proofs.YtmniefmjdfdedaaGreatDoor
