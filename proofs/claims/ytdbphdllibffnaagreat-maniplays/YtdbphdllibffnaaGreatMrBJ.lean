/- The document's disk: a writing call of the law's; beside the program's. -/
import Derived.Test.YtdbphdllibffnaaGreatRdYJ
import Derived.Test.YtdbphdllibffnaaGreatWriterJ
import Derived.Test.YtdbphdllibffnaaGreatMaHJ
namespace Go.Proofs.YtdbphdllibffnaaGreat
open Go.RowKit Go.Shelf
set_option maxRecDepth 8000

def wantK (R : RD) (o : OpK) : Int × RD :=
  if o.kind = 1 then R.act (R.errA o.name o.p.length) (appF R.files o.name o.p)
  else if o.kind = 2 then R.act (R.errO o.name) (updF R.files o.name durF)
  else if o.kind = 3 then R.act (R.errC o.name o.n) (updF R.files o.name (cutF o.n.toNat))
  else if o.kind = 4 then R.act (R.errR o.name o.dest) (renF R.files o.name o.dest)
  else if o.kind = 5 then R.act (R.errO o.name) (R.files.eraseIdx (dropI R.files o.name))
  else (0, R)

/-- A writing call turns both alike. -/
theorem play_want {D : DkD} {R : RD} (h : Play D R) (hc : Calm D) (o : OpK) : (wantK R o).1 = (actK D o).1 ∧ Play (actK D o).2 (wantK R o).2 ∧ Calm (actK D o).2 := by
  have eO : ∀ n, R.errO n = D.errO n := fun n => by unfold RD.errO DkD.errO; rw [h.on, h.files]
  have eA : ∀ n k, R.errA n k = D.errA n k := fun n k => by unfold RD.errA DkD.errA; rw [h.on, h.files, h.room]
  have eC : ∀ n k, R.errC n k = D.errC n k := fun n k => by unfold RD.errC DkD.errC; rw [eO, h.files]
  have eR : ∀ a b, R.errR a b = D.errR a b := fun a b => by unfold RD.errR DkD.errR; rw [h.on, h.files]
  unfold wantK actK
  split
  · rw [eA, h.files]; exact play_act h hc _ _ (fun e => (errA_zero e).1)
  · split
    · rw [eO, h.files]; exact play_act h hc _ _ (fun e => (errO_zero e).1)
    · split
      · rw [eC, h.files]; exact play_act h hc _ _ (fun e => (errO_zero (errC_zero e).1).1)
      · split
        · rw [eR, h.files]; exact play_act h hc _ _ (fun e => (errR_zero e).1)
        · split
          · rw [eO, h.files]; exact play_act h hc _ _ (fun e => (errO_zero e).1)
          · exact ⟨rfl, h, hc⟩

theorem RD.write_more (R : RD) : R.write.2.more ≤ R.more := by
  unfold RD.write
  split
  · split
    · exact Int.le_refl _
    · show R.more - 1 ≤ R.more; omega
  · exact Int.le_refl _

theorem RD.act_more (R : RD) (e : Int) (fs : List FiD) : (R.act e fs).2.more ≤ R.more := by
  unfold RD.act
  split
  · split
    · exact R.write_more
    · exact R.write_more
  · exact Int.le_refl _

theorem wantK_more (R : RD) (o : OpK) : (wantK R o).2.more ≤ R.more := by
  unfold wantK
  repeat' split
  all_goals first | exact R.act_more _ _ | exact Int.le_refl _

/-- The program's disk and the document's, side by side. -/
structure Both (w0 w : World) (p q : Nat) (D : DkD) (R : RD) (k : Nat) : Prop where
  ex : ∃ fv ms rv vs, IsDk w p fv ms D ∧ IsRd w q rv vs R ∧ (∀ j ∈ foot p fv ms, j ∉ rfoot q rv vs) ∧ (∀ j ∈ foot p fv ms, w0.heap.size ≤ j) ∧ (∀ j ∈ rfoot q rv vs, w0.heap.size ≤ j)
  ok : DkOk D
  calm : Calm D
  play : Play D R
  more : R.more ≤ 9223372036854775807
  writes : D.writes ≤ k
  bel : Below w0.heap.size w0 w

theorem Both.rdOk {w0 w : World} {p q : Nat} {D : DkD} {R : RD} {k : Nat} (h : Both w0 w p q D R k) (hk : k ≤ 4611686018427387904) : RdOk R := by
  refine ⟨by rw [h.play.files]; exact h.ok.rise, by rw [h.play.files]; exact h.ok.few, ?_, fun e => ?_, h.more, by rw [h.play.done]; exact h.ok.w0, by rw [h.play.done]; have := h.writes; omega⟩
  · rw [h.play.files]
    have := h.ok.fits
    have := h.ok.r1
    omega
  · rcases h.play.arm with ⟨e1, _⟩ | ⟨_, _, e3⟩
    · rw [e1] at e; cases e
    · exact e3

theorem Both.later {w0 w w' : World} {p q : Nat} {D : DkD} {R : RD} {k : Nat} (h : Both w0 w p q D R k) (hb : Below w.heap.size w w') : Both w0 w' p q D R k := by
  obtain ⟨fv, ms, rv, vs, h1, h2, h3, h4, h5⟩ := h.ex
  exact ⟨⟨fv, ms, rv, vs, h1.later hb, h2.later hb, h3, h4, h5⟩, h.ok, h.calm, h.play, h.more, h.writes, Below.step h.bel hb⟩

end Go.Proofs.YtdbphdllibffnaaGreat

/- manifest.get over a Reader of any bytes, in any state: each number as the Reader gives it. -/
namespace Go.Proofs.YtdbphdllibffnaaGreat
open Go.RowKit Go.Shelf
set_option maxRecDepth 8000

/-- A Reader's state behind k numbers of z bytes. -/
def stN (z : Nat) (bs : List Int) (f : Int) : Nat → List Int × Int
  | 0 => (bs, f)
  | k + 1 => ((rdNum z (stN z bs f k).1 (stN z bs f k).2).rest, (rdNum z (stN z bs f k).1 (stN z bs f k).2).fault)

/-- The k-th number of them. -/
def ouN (z : Nat) (bs : List Int) (f : Int) (k : Nat) : Int := (rdNum z (stN z bs f k).1 (stN z bs f k).2).out

theorem rdNum_byts (z : Nat) {bs : List Int} (f : Int) (h : Byts bs) : Byts (rdNum z bs f).rest := by
  unfold rdNum
  by_cases h1 : f ≠ 0
  · rw [if_pos h1]; exact h
  · rw [if_neg h1]
    by_cases h2 : bs.length < z
    · rw [if_pos h2]; exact h
    · rw [if_neg h2]; exact h.drop z

theorem stN_byts (z : Nat) {bs : List Int} (f : Int) (h : Byts bs) : ∀ k, Byts (stN z bs f k).1
  | 0 => h
  | k + 1 => rdNum_byts z _ (stN_byts z f h k)

/-- A Reader that went on, a row that was filled. -/
structure GtN (w w' : World) (g q : Nat) (v : Value) (st : List Int × Int) (cs : List Value) : Prop where
  rd : ∃ v', IsR w' g v' st.1 st.2 ∧ ∀ k, v'.ownBlock = some k → v.ownBlock = some k
  row : w'.heap[q]? = some (.cells cs.toArray 35 (0, 0))
  kept : Kept w w' (fun k => k = g ∨ k = q)

set_option maxHeartbeats 1000000 in
theorem mgetN4 (g q b o : Nat) (v : Value) (n : Nat) (bs : List Int) (f : Int) (base : List Value) (w : World) (h : IsR w g v bs f) (hby : Byts bs) (hq : w.heap[q]? = some (.cells base.toArray 35 (0, 0))) (hc : ∀ i, i < n → w.cell? ⟨b, i, none⟩ = some (.pointer (some ⟨q, o + i, none⟩))) (hbg : b ≠ g ∧ b ≠ q ∧ g ≠ q) (hv : ∀ k, v.ownBlock = some k → k ≠ q) (hl : n ≤ 10) (hln : o + n ≤ base.length) (hbi : ∀ i, o ≤ i → i < o + n → ∃ n, base[i]? = some (.int .u32 n)) :
    Calls Tryz.prog 86 #[.func (.func 87) #[.pointer (some ⟨g, 0, none⟩)] #[], .slice (some ⟨b, 0, none⟩) n n] w fun e w' => e = .returned (.tuple #[]) ∧ GtN w w' g q v (stN 4 bs f n) (cellsK base o ((List.range n).map (fun k => Value.int .u32 ((ouN 4 bs f k)))) n) := by
  have H : Hid ((∀ i, i < n → w.cell? ⟨b, i, none⟩ = some (.pointer (some ⟨q, o + i, none⟩))) ∧ Byts bs) := ⟨hc, hby⟩
  have H0 : Hid (GtN w w g q v (stN 4 bs f 0) (cellsK base o ((List.range n).map (fun k => Value.int .u32 ((ouN 4 bs f k)))) 0)) := by
    refine ⟨⟨v, h, fun _ e => e⟩, ?_, Kept.refl _ _⟩
    rw [cellsK_zero]
    exact hq
  have HBI : Hid _ := hbi
  have HV : Hid _ := hv
  clear h hc hby hq hbi hv
  go_enter Tryz.func86, Tryz.ntmps86
  go_wp2_with fail
  go_loopw [5, 8] (fun _ i wr => ∃ k : Nat, k ≤ n ∧ i = .int .i64 k ∧ Hid (GtN w wr g q v (stN 4 bs f k) (cellsK base o ((List.range n).map (fun k => Value.int .u32 ((ouN 4 bs f k)))) k))) (fun _ i _ => n - (intOf i).toNat)
  case atStart => exact ⟨0, Nat.zero_le _, rfl, H0⟩
  case round =>
    obtain ⟨k, hk, rfl, HP⟩ := hrel
    clear H0
    by_cases hlt : k < n
    · obtain ⟨⟨vk, hR, hvk⟩, hrow, hK⟩ := HP.out
      have hck : wr.cell? ⟨b, k, none⟩ = some (.pointer (some ⟨q, o + k, none⟩)) := hK.cell (H.out.1 k hlt) (fun e => by
        rcases e with e | e
        · exact hbg.1 e
        · exact hbg.2.1 e)
      have hlb := World.block_lt_of_cell? wr _ hck
      have hbyk : Byts (stN 4 bs f k).1 := stN_byts 4 f H.out.2 k
      have HG : Hid (Calls Tryz.prog 87 #[.pointer (some ⟨g, 0, none⟩)] wr fun e w' => e = .returned (.int .u32 ((ouN 4 bs f k))) ∧ Hid (GtN w (w'.setCell ⟨q, o + k, none⟩ (.int .u32 ((ouN 4 bs f k)))) g q v (stN 4 bs f (k + 1)) (cellsK base o ((List.range n).map (fun k => Value.int .u32 ((ouN 4 bs f k)))) (k + 1))) ∧ (∃ n, w'.cell? ⟨q, o + k, none⟩ = some (.int .u32 n)) ∧ w'.frozen? ⟨q, o + k, none⟩ = false ∧ q < w'.heap.size) := by
        refine (rUint32_any g vk _ _ wr hR hbyk).mono ?_
        rintro e w2 ⟨rfl, hr2⟩
        refine ⟨rfl, ?_⟩
        obtain ⟨v2, i2, s2, k2⟩ := hr2
        have hrow2 : w2.heap[q]? = some (.cells (cellsK base o ((List.range n).map (fun k => Value.int .u32 ((ouN 4 bs f k)))) k).toArray 35 (0, 0)) := k2.heap hrow (fun e => hbg.2.2 e.symm)
        have hln2 : (cellsK base o ((List.range n).map (fun k => Value.int .u32 ((ouN 4 bs f k)))) k).length = base.length := cellsK_len _ _ _ _ (by omega) (by simpa using hk)
        refine ⟨⟨⟨v2, ?_, ?_⟩, ?_, ?_⟩, ?_, frozen_of_row w2 q _ _ _ hrow2, lt_of_block hrow2⟩
        · exact i2.kept (Kept.setCell (Kept.refl _ (fun k => k = q)) ⟨q, o + k, none⟩ _ (fun _ => rfl)) hbg.2.2 (fun j e => HV.out j (hvk j (s2 j e)))
        · exact fun j e => hvk j (s2 j e)
        · have h3 := heap_setK (i := o + k) (.int .u32 ((ouN 4 bs f k))) hrow2
          have h4 := cellsK_next base o ((List.range n).map (fun k => Value.int .u32 ((ouN 4 bs f k)))) k (by simpa using hlt) (by rw [List.length_map, List.length_range]; omega)
          rw [List.getElem_map, List.getElem_range] at h4
          rw [h3, List.setIfInBounds_toArray, h4]
        · exact (hK.trans' k2 (fun j _ e => e) (fun j _ e => .inl e)).trans' (Kept.setCell (Kept.refl _ (fun k => k = q)) ⟨q, o + k, none⟩ _ (fun _ => rfl)) (fun j _ e => e) (fun j _ e => .inr e)
        · obtain ⟨n', hn'⟩ := HBI.out (o + k) (by omega) (by omega)
          refine ⟨n', ?_⟩
          rw [cell_of_row w2 q (o + k) _ _ _ hrow2, List.getElem?_toArray, cellsK_at _ _ _ _ (by simpa using hk) (by omega)]
          exact hn'
      clear hR hvk hrow hK HP hbyk
      generalize ouN 4 bs f k = x at *
      go_wp2_with fail
      refine Calls.mono HG.out ?_
      rintro e w2 ⟨rfl, HP2, ⟨n2, c2⟩, f2, l2⟩
      go_wp2_with fail
      go_roundw
      case rel => exact ⟨k + 1, by omega, by go_num, HP2⟩
      case measure => simp [intOf]; omega
    · obtain rfl : k = n := by omega
      go_wp2_with fail
      go_end0
      exact ⟨rfl, HP.out⟩

set_option maxHeartbeats 1000000 in
theorem mgetN8 (g q b o : Nat) (v : Value) (n : Nat) (bs : List Int) (f : Int) (base : List Value) (w : World) (h : IsR w g v bs f) (hby : Byts bs) (hq : w.heap[q]? = some (.cells base.toArray 35 (0, 0))) (hc : ∀ i, i < n → w.cell? ⟨b, i, none⟩ = some (.pointer (some ⟨q, o + i, none⟩))) (hbg : b ≠ g ∧ b ≠ q ∧ g ≠ q) (hv : ∀ k, v.ownBlock = some k → k ≠ q) (hl : n ≤ 10) (hln : o + n ≤ base.length) (hbi : ∀ i, o ≤ i → i < o + n → ∃ n, base[i]? = some (.int .i64 n)) :
    Calls Tryz.prog 88 #[.func (.func 89) #[.pointer (some ⟨g, 0, none⟩)] #[], .slice (some ⟨b, 0, none⟩) n n] w fun e w' => e = .returned (.tuple #[]) ∧ GtN w w' g q v (stN 8 bs f n) (cellsK base o ((List.range n).map (fun k => Value.int .i64 (wrap64 (ouN 8 bs f k)))) n) := by
  have H : Hid ((∀ i, i < n → w.cell? ⟨b, i, none⟩ = some (.pointer (some ⟨q, o + i, none⟩))) ∧ Byts bs) := ⟨hc, hby⟩
  have H0 : Hid (GtN w w g q v (stN 8 bs f 0) (cellsK base o ((List.range n).map (fun k => Value.int .i64 (wrap64 (ouN 8 bs f k)))) 0)) := by
    refine ⟨⟨v, h, fun _ e => e⟩, ?_, Kept.refl _ _⟩
    rw [cellsK_zero]
    exact hq
  have HBI : Hid _ := hbi
  have HV : Hid _ := hv
  clear h hc hby hq hbi hv
  go_enter Tryz.func88, Tryz.ntmps88
  go_wp2_with fail
  go_loopw [5, 8] (fun _ i wr => ∃ k : Nat, k ≤ n ∧ i = .int .i64 k ∧ Hid (GtN w wr g q v (stN 8 bs f k) (cellsK base o ((List.range n).map (fun k => Value.int .i64 (wrap64 (ouN 8 bs f k)))) k))) (fun _ i _ => n - (intOf i).toNat)
  case atStart => exact ⟨0, Nat.zero_le _, rfl, H0⟩
  case round =>
    obtain ⟨k, hk, rfl, HP⟩ := hrel
    clear H0
    by_cases hlt : k < n
    · obtain ⟨⟨vk, hR, hvk⟩, hrow, hK⟩ := HP.out
      have hck : wr.cell? ⟨b, k, none⟩ = some (.pointer (some ⟨q, o + k, none⟩)) := hK.cell (H.out.1 k hlt) (fun e => by
        rcases e with e | e
        · exact hbg.1 e
        · exact hbg.2.1 e)
      have hlb := World.block_lt_of_cell? wr _ hck
      have hbyk : Byts (stN 8 bs f k).1 := stN_byts 8 f H.out.2 k
      have HG : Hid (Calls Tryz.prog 89 #[.pointer (some ⟨g, 0, none⟩)] wr fun e w' => e = .returned (.int .i64 (wrap64 (ouN 8 bs f k))) ∧ Hid (GtN w (w'.setCell ⟨q, o + k, none⟩ (.int .i64 (wrap64 (ouN 8 bs f k)))) g q v (stN 8 bs f (k + 1)) (cellsK base o ((List.range n).map (fun k => Value.int .i64 (wrap64 (ouN 8 bs f k)))) (k + 1))) ∧ (∃ n, w'.cell? ⟨q, o + k, none⟩ = some (.int .i64 n)) ∧ w'.frozen? ⟨q, o + k, none⟩ = false ∧ q < w'.heap.size) := by
        refine (rInt64_any g vk _ _ wr hR hbyk).mono ?_
        rintro e w2 ⟨rfl, hr2⟩
        refine ⟨rfl, ?_⟩
        obtain ⟨v2, i2, s2, k2⟩ := hr2
        have hrow2 : w2.heap[q]? = some (.cells (cellsK base o ((List.range n).map (fun k => Value.int .i64 (wrap64 (ouN 8 bs f k)))) k).toArray 35 (0, 0)) := k2.heap hrow (fun e => hbg.2.2 e.symm)
        have hln2 : (cellsK base o ((List.range n).map (fun k => Value.int .i64 (wrap64 (ouN 8 bs f k)))) k).length = base.length := cellsK_len _ _ _ _ (by omega) (by simpa using hk)
        refine ⟨⟨⟨v2, ?_, ?_⟩, ?_, ?_⟩, ?_, frozen_of_row w2 q _ _ _ hrow2, lt_of_block hrow2⟩
        · exact i2.kept (Kept.setCell (Kept.refl _ (fun k => k = q)) ⟨q, o + k, none⟩ _ (fun _ => rfl)) hbg.2.2 (fun j e => HV.out j (hvk j (s2 j e)))
        · exact fun j e => hvk j (s2 j e)
        · have h3 := heap_setK (i := o + k) (.int .i64 (wrap64 (ouN 8 bs f k))) hrow2
          have h4 := cellsK_next base o ((List.range n).map (fun k => Value.int .i64 (wrap64 (ouN 8 bs f k)))) k (by simpa using hlt) (by rw [List.length_map, List.length_range]; omega)
          rw [List.getElem_map, List.getElem_range] at h4
          rw [h3, List.setIfInBounds_toArray, h4]
        · exact (hK.trans' k2 (fun j _ e => e) (fun j _ e => .inl e)).trans' (Kept.setCell (Kept.refl _ (fun k => k = q)) ⟨q, o + k, none⟩ _ (fun _ => rfl)) (fun j _ e => e) (fun j _ e => .inr e)
        · obtain ⟨n', hn'⟩ := HBI.out (o + k) (by omega) (by omega)
          refine ⟨n', ?_⟩
          rw [cell_of_row w2 q (o + k) _ _ _ hrow2, List.getElem?_toArray, cellsK_at _ _ _ _ (by simpa using hk) (by omega)]
          exact hn'
      clear hR hvk hrow hK HP hbyk
      generalize wrap64 (ouN 8 bs f k) = x at *
      go_wp2_with fail
      refine Calls.mono HG.out ?_
      rintro e w2 ⟨rfl, HP2, ⟨n2, c2⟩, f2, l2⟩
      go_wp2_with fail
      go_roundw
      case rel => exact ⟨k + 1, by omega, by go_num, HP2⟩
      case measure => simp [intOf]; omega
    · obtain rfl : k = n := by omega
      go_wp2_with fail
      go_end0
      exact ⟨rfl, HP.out⟩
end Go.Proofs.YtdbphdllibffnaaGreat

/- manifest.numbers over a Reader of any bytes, in any state. -/
namespace Go.Proofs.YtdbphdllibffnaaGreat
open Go.RowKit Go.Shelf
set_option maxRecDepth 8000

/-- The numbers that a Reader in that state gives. -/
def numD (bs : List Int) (f : Int) : MaD := ⟨ouN 4 bs f 0, ouN 4 bs f 1, ouN 4 bs f 2, wrap64 (ouN 8 (stN 4 bs f 3).1 (stN 4 bs f 3).2 0), wrap64 (ouN 8 (stN 4 bs f 3).1 (stN 4 bs f 3).2 1)⟩
/-- Its state behind them. -/
def numS (bs : List Int) (f : Int) : List Int × Int := stN 8 (stN 4 bs f 3).1 (stN 4 bs f 3).2 2

set_option maxHeartbeats 2000000 in
theorem numbers_any (g : Nat) (v : Value) (bs : List Int) (f : Int) (w : World) (h : IsR w g v bs f) (hby : Byts bs) (hvl : ∀ k, v.ownBlock = some k → k < w.heap.size) :
    Calls Tryz.prog 44 #[.pointer (some ⟨g, 0, none⟩)] w fun e w' => e = .returned (numD bs f).val ∧ (∃ v', IsR w' g v' (numS bs f).1 (numS bs f).2 ∧ ∀ k, v'.ownBlock = some k → k < w.heap.size) ∧ Kept w w' (· = g) := by
  obtain ⟨boot, eb⟩ : ∃ x, x = ouN 4 bs f 0 := ⟨_, rfl⟩
  obtain ⟨acc, ea⟩ : ∃ x, x = ouN 4 bs f 1 := ⟨_, rfl⟩
  obtain ⟨cur, ec⟩ : ∃ x, x = ouN 4 bs f 2 := ⟨_, rfl⟩
  obtain ⟨snap, es⟩ : ∃ x, x = wrap64 (ouN 8 (stN 4 bs f 3).1 (stN 4 bs f 3).2 0) := ⟨_, rfl⟩
  obtain ⟨log, el⟩ : ∃ x, x = wrap64 (ouN 8 (stN 4 bs f 3).1 (stN 4 bs f 3).2 1) := ⟨_, rfl⟩
  obtain ⟨S, eS⟩ : ∃ S, S = numS bs f := ⟨_, rfl⟩
  have hD : numD bs f = ⟨boot, acc, cur, snap, log⟩ := by rw [eb, ea, ec, es, el]; rfl
  rw [hD, ← eS]
  have HN : Hid ((boot = ouN 4 bs f 0 ∧ acc = ouN 4 bs f 1 ∧ cur = ouN 4 bs f 2) ∧ (snap = wrap64 (ouN 8 (stN 4 bs f 3).1 (stN 4 bs f 3).2 0) ∧ log = wrap64 (ouN 8 (stN 4 bs f 3).1 (stN 4 bs f 3).2 1)) ∧ S = numS bs f) := ⟨⟨eb, ea, ec⟩, ⟨es, el⟩, eS⟩
  clear eb ea ec es el eS hD
  obtain ⟨Z, hZ⟩ : ∃ Z : List Value, Z = [.int .u32 0, .int .u32 0, .int .u32 0, .int .i64 0, .int .i64 0] := ⟨_, rfl⟩
  obtain ⟨W, eW⟩ : ∃ W, W = ((w.alloc (.cells Z.toArray 35)).alloc (.cells Z.toArray 35)).alloc (.cells #[.pointer (some ⟨w.heap.size + 1, 0, none⟩), .pointer (some ⟨w.heap.size + 1, 1, none⟩), .pointer (some ⟨w.heap.size + 1, 2, none⟩)] 124) := ⟨_, rfl⟩
  have hgl := lt_of_block h.1
  have hs1 : (w.alloc (.cells Z.toArray 35)).heap.size = w.heap.size + 1 := World.size_alloc ..
  have hs2 : ((w.alloc (.cells Z.toArray 35)).alloc (.cells Z.toArray 35)).heap.size = w.heap.size + 2 := by rw [World.size_alloc, hs1]
  have hs3 : W.heap.size = w.heap.size + 3 := by rw [eW, World.size_alloc, hs2]
  have hb3 : Below w.heap.size w W := by rw [eW]; exact Below.step (one_allocK _ _) (Below.step (one_allocK _ _) (one_allocK _ _))
  have r0 : W.heap[w.heap.size]? = some (.cells Z.toArray 35 (0, 0)) := by
    rw [eW]
    exact (Below.kept (one_allocK _ _)).heap ((Below.kept (one_allocK _ _)).heap (heap_alloc_new w _) (fun e => by omega)) (fun e => by omega)
  have r1 : W.heap[w.heap.size + 1]? = some (.cells Z.toArray 35 (0, 0)) := by
    rw [eW]
    have h1 := heap_alloc_new (w.alloc (.cells Z.toArray 35)) (.cells Z.toArray 35)
    rw [hs1] at h1
    exact (Below.kept (one_allocK _ _)).heap h1 (fun e => by omega)
  have r2 : W.heap[w.heap.size + 2]? = some (.cells #[.pointer (some ⟨w.heap.size + 1, 0, none⟩), .pointer (some ⟨w.heap.size + 1, 1, none⟩), .pointer (some ⟨w.heap.size + 1, 2, none⟩)] 124 (0, 0)) := by
    rw [eW]
    have h1 := heap_alloc_new ((w.alloc (.cells Z.toArray 35)).alloc (.cells Z.toArray 35)) (.cells #[.pointer (some ⟨w.heap.size + 1, 0, none⟩), .pointer (some ⟨w.heap.size + 1, 1, none⟩), .pointer (some ⟨w.heap.size + 1, 2, none⟩)] 124)
    rw [hs2] at h1
    exact h1
  have hR : IsR W g v bs f := h.kept (Below.kept hb3) (fun e => by omega) (fun k e e' => by have := hvl k e; omega)
  have HP : Hid _ := mgetN4 g (w.heap.size + 1) (w.heap.size + 2) 0 v 3 bs f Z W hR hby r1 (fun i hi => by
    rcases (show i = 0 ∨ i = 1 ∨ i = 2 by omega) with rfl | rfl | rfl
    · exact cell_of_row _ _ 0 _ _ _ r2
    · exact cell_of_row _ _ 1 _ _ _ r2
    · exact cell_of_row _ _ 2 _ _ _ r2) ⟨by omega, by omega, by omega⟩ (fun k e => by have := hvl k e; omega) (by omega) (by rw [hZ]; simp) (fun i h1 h2 => by
    rw [hZ]
    rcases (show i = 0 ∨ i = 1 ∨ i = 2 by omega) with rfl | rfl | rfl <;> exact ⟨0, rfl⟩)
  have HX : Hid (Below w.heap.size w W ∧ W.heap[w.heap.size]? = some (.cells Z.toArray 35 (0, 0)) ∧ (∀ k, v.ownBlock = some k → k < w.heap.size) ∧ Byts (stN 4 bs f 3).1) := ⟨hb3, r0, hvl, stN_byts 4 f hby 3⟩
  have HE : Hid _ := eW
  have HZ : Hid _ := hZ
  rw [hZ] at HE
  clear h hby hvl r0 r1 r2 hR hb3 eW hs1 hs2
  go_enter Tryz.func44, Tryz.ntmps44
  go_wp2_with fail
  rw [← HE.out]
  refine Calls.mono HP.out ?_
  rintro e w1 ⟨rfl, hg1⟩
  obtain ⟨⟨v1, hR1, hs1⟩, hq1, hk1⟩ := hg1
  have e1 : cellsK Z 0 ((List.range 3).map (fun k => Value.int .u32 (ouN 4 bs f k))) 3 = [.int .u32 boot, .int .u32 acc, .int .u32 cur, .int .i64 0, .int .i64 0] := by rw [HZ.out, HN.out.1.1, HN.out.1.2.1, HN.out.1.2.2]; rfl
  rw [e1] at hq1
  have hsz1 := hk1.size
  have r01 : w1.heap[w.heap.size]? = some (.cells Z.toArray 35 (0, 0)) := hk1.heap HX.out.2.1 (fun e => by omega)
  obtain ⟨W2, eW2⟩ : ∃ W2, W2 = w1.alloc (.cells #[.pointer (some ⟨w.heap.size + 1, 3, none⟩), .pointer (some ⟨w.heap.size + 1, 4, none⟩)] 127) := ⟨_, rfl⟩
  have hb2 : Below w1.heap.size w1 W2 := by rw [eW2]; exact one_allocK _ _
  have hsW2 : W2.heap.size = w1.heap.size + 1 := by rw [eW2, World.size_alloc]
  have r2 : W2.heap[w1.heap.size]? = some (.cells #[.pointer (some ⟨w.heap.size + 1, 3, none⟩), .pointer (some ⟨w.heap.size + 1, 4, none⟩)] 127 (0, 0)) := by rw [eW2]; exact heap_alloc_new w1 _
  have hv1 : ∀ k, v1.ownBlock = some k → k < w.heap.size := fun k e => HX.out.2.2.1 k (hs1 k e)
  obtain ⟨T, hT⟩ : ∃ T, T = stN 4 bs f 3 := ⟨_, rfl⟩
  rw [← hT] at hR1
  have hR2 : IsR W2 g v1 T.1 T.2 := hR1.kept (Below.kept hb2) (fun e => by omega) (fun k e e' => by have := hv1 k e; omega)
  have hby2 : Byts T.1 := by rw [hT]; exact HX.out.2.2.2
  have HP2 : Hid _ := mgetN8 g (w.heap.size + 1) w1.heap.size 3 v1 2 T.1 T.2 [.int .u32 boot, .int .u32 acc, .int .u32 cur, .int .i64 0, .int .i64 0] W2 hR2 hby2 ((Below.kept hb2).heap hq1 (fun e => by omega)) (fun i hi => by
    rcases (show i = 0 ∨ i = 1 by omega) with rfl | rfl
    · exact cell_of_row _ _ 0 _ _ _ r2
    · exact cell_of_row _ _ 1 _ _ _ r2) ⟨by omega, by omega, by omega⟩ (fun k e => by have := hv1 k e; omega) (by omega) (by simp) (fun i h1 h2 => by
    rcases (show i = 3 ∨ i = 4 by omega) with rfl | rfl <;> exact ⟨0, rfl⟩)
  have HT : Hid _ := hT
  have HV1 : Hid _ := hv1
  have HX2 : Hid (Kept w W2 (· = g) ∧ W2.heap[w.heap.size]? = some (.cells Z.toArray 35 (0, 0))) := ⟨((Below.kept HX.out.1).trans' hk1 (fun k hk e => by omega) (fun k hk e => by rcases e with e | e; exact e; omega)).trans' (Below.kept hb2) (fun k _ e => e) (fun k hk e => by omega), (Below.kept hb2).heap r01 (fun e => by omega)⟩
  have HE2 : Hid _ := eW2
  clear hR1 hs1 hq1 hk1 e1 r01 hb2 r2 hv1 hR2 hby2 eW2 hT
  go_wp2_with fail
  rw [← HE2.out]
  refine Calls.mono HP2.out ?_
  rintro e w2 ⟨rfl, hg2⟩
  obtain ⟨⟨v2, hR3, hs2⟩, hq2, hk2⟩ := hg2
  have e2 : cellsK [.int .u32 boot, .int .u32 acc, .int .u32 cur, .int .i64 0, .int .i64 0] 3 ((List.range 2).map (fun k => Value.int .i64 (wrap64 (ouN 8 T.1 T.2 k)))) 2 = [.int .u32 boot, .int .u32 acc, .int .u32 cur, .int .i64 snap, .int .i64 log] := by rw [HN.out.2.1.1, HN.out.2.1.2, HT.out]; rfl
  rw [e2] at hq2
  have r02 : w2.heap[w.heap.size]? = some (.cells Z.toArray 35 (0, 0)) := hk2.heap HX2.out.2 (fun e => by omega)
  rw [HZ.out] at r02
  have q0 := cell_of_row w2 _ 0 _ _ _ hq2
  have q1 := cell_of_row w2 _ 1 _ _ _ hq2
  have q2 := cell_of_row w2 _ 2 _ _ _ hq2
  have q3 := cell_of_row w2 _ 3 _ _ _ hq2
  have q4 := cell_of_row w2 _ 4 _ _ _ hq2
  have z0 := cell_of_row w2 _ 0 _ _ _ r02
  have z1 := cell_of_row w2 _ 1 _ _ _ r02
  have z2 := cell_of_row w2 _ 2 _ _ _ r02
  have z3 := cell_of_row w2 _ 3 _ _ _ r02
  have z4 := cell_of_row w2 _ 4 _ _ _ r02
  simp only [List.getElem?_toArray, List.getElem?_cons_zero, List.getElem?_cons_succ] at q0 q1 q2 q3 q4 z0 z1 z2 z3 z4
  have f0 := frozen_of_row w2 w.heap.size 0 _ _ r02
  have f1 := frozen_of_row w2 w.heap.size 1 _ _ r02
  have f2 := frozen_of_row w2 w.heap.size 2 _ _ r02
  have f3 := frozen_of_row w2 w.heap.size 3 _ _ r02
  have f4 := frozen_of_row w2 w.heap.size 4 _ _ r02
  have hlq := lt_of_block hq2
  have hlz := lt_of_block r02
  have HF : Hid ((∃ v', IsR w2 g v' S.1 S.2 ∧ ∀ k, v'.ownBlock = some k → k < w.heap.size) ∧ Kept w w2 (· = g) ∧ w2.heap[w.heap.size]? = some (.cells #[.int .u32 0, .int .u32 0, .int .u32 0, .int .i64 0, .int .i64 0] 35 (0, 0))) := by
    refine ⟨⟨v2, (by rw [HN.out.2.2]; rw [HT.out] at hR3; exact hR3), fun k e => ?_⟩, HX2.out.1.trans' hk2 (fun k _ e => e) (fun k hk e => by rcases e with e | e; exact e; omega), r02⟩
    exact HV1.out k (hs2 k e)
  clear hR3 hs2 hq2 hk2 r02 HP HP2
  go_wp2_with fail
  obtain ⟨⟨v', hR, hvl⟩, hK, hrow⟩ := HF.out
  refine bodyPost_ret (v := MaD.val ⟨boot, acc, cur, snap, log⟩) (results_cell_row Tryz.results44 _ _ w.heap.size _ _ _ _ rfl (row5 hrow _ _ _ _ _) Tryz.underlying35 rfl man_size) rfl ⟨rfl, ⟨v', ?_, hvl⟩, ?_⟩
  · exact hR.kept (kept5 w2 w.heap.size _ _ _ _ _) (fun e => by omega) (fun k e e' => by have := hvl k e; omega)
  · exact hK.trans' (kept5 w2 w.heap.size _ _ _ _ _) (fun k _ e => e) (fun k hk e => by omega)
end Go.Proofs.YtdbphdllibffnaaGreat
