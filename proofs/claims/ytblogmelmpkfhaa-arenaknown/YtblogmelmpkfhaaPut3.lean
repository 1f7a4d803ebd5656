/- Put: the clause is put. -/
import Derived.Test.YtblogmelmpkfhaaPut2
namespace Go.Proofs.Ytblogmelmpkfhaa
open Go.RowKit Go.Maps
set_option linter.unusedVariables false

/-- A row of literals that stays while the arena turns. -/
def Stays (n : Nat) (W : World) (a : Option Addr) (xs : List Int) : Prop := ∀ w', Fr pA n W w' → Lits w' a xs
theorem Stays.here {n : Nat} {W : World} {a : Option Addr} {xs : List Int} (h : Stays n W a xs) : Lits W a xs := h W (Fr.refl _ _ _)
theorem wrap_u (l : Int) : IntKind.u32.wrap l = Arn.u32 l := by rw [IntKind.wrap_u32]; rfl
theorem putE_ok {M : List Arn.It} {lim : Nat} {id lbd : Int} {c : List Int} (hok : ¬ (id < 1 ∨ 4611686018427387903 < id ∨ Arn.small lbd = false)) (hz : (0 : Int) ∉ c) (hf : ¬ lim < Arn.size M + 4 + c.length) : Arn.putE M lim id c lbd = 0 := by
  unfold Arn.putE; rw [if_neg hok, if_neg hz, if_neg hf]
theorem new_cells (id : Int) (c : List Int) (red : Bool) (lbd : Int) : (Arn.newIt id c red lbd).cells = [4 * (c.length : Int) + (if red then 2 else 0), Arn.u32 id, id / 4294967296, lbd * 65536] ++ c.map Arn.u32 := by
  cases red <;> simp [Arn.newIt, Arn.It.cells, Arn.It.head]

set_option maxRecDepth 100000 in
set_option maxHeartbeats 4000000 in
theorem put13_ok {n ab lim : Nat} {M : List Arn.It} {W : World} (hA : Arx n ab lim M W) (id : Int) (a : Option Addr) (k cap : Nat) (c : List Int) (red : Bool) (lbd : Int) (hok : ¬ (id < 1 ∨ 4611686018427387903 < id ∨ Arn.small lbd = false))
    (hk : c.length = k) (hst : Stays n W a c) (hz : (0 : Int) ∉ c) (hf : ¬ lim < Arn.size M + 4 + c.length) :
    Calls Try.prog 13 #[.pointer (some ⟨ab, 0, none⟩), .int .i64 id, .slice a k cap, .bool red, .int .i64 lbd] W fun e w' => PutOut n ab lim W M id c red lbd e w' := by
  have he := putE_ok (M := M) hok hz hf
  have HE := hid (show ∀ w' v bm, Ar n ab lim v bm (M ++ [Arn.newIt id c red lbd]) w' → Fr pA n W w' → PutOut n ab lim W M id c red lbd (.returned (.tuple #[.int .i64 (Arn.size M : Nat), .int .i64 0])) w' from fun w' v bm h1 h2 => by
    refine ⟨by rw [he, Arn.putR, he, if_pos rfl], ?_, h2⟩
    rw [Arn.put, he, if_pos rfl]
    exact ⟨v, bm, h1⟩)
  have C := hid (fun w => small38 lbd w)
  obtain ⟨v, bm, h⟩ := hA
  have hlim := h.lim
  have hfit := h.fit
  have hk268 : k + 4 + Arn.size M ≤ 268435456 := by omega
  have C2 := hid (contains39 a k cap c W hk (by omega) hst.here)
  rw [show decide ((0 : Int) ∈ c) = false by simp [hz]] at C2
  have hb : Arn.small lbd = true := by
    cases hs : Arn.small lbd
    · exact absurd (.inr (.inr hs)) hok
    · rfl
  rw [hb] at C
  simp only [Arn.small, Bool.and_eq_true, decide_eq_true_eq] at hb
  have h1 : ¬ id < 1 := fun h => hok (.inl h)
  have h2 : ¬ 4611686018427387903 < id := fun h => hok (.inr (.inl h))
  have C3 := hid (fun w => headOf40 k red w (by omega))
  have C4 := hid (fun w => usageOf41 lbd 0 w hb.1 hb.2 (by decide) (by decide))
  simp only [Int.add_zero] at C4
  have hxok : (Arn.newIt id c red lbd).ok := ⟨Nat.le_refl _, by show 1 ≤ id; omega, by show id ≤ _; omega, hb.1, hb.2, by show (0 : Int) ≤ 0; decide, by show (0 : Int) ≤ 65535; decide, hst.here.1⟩
  have hlost : (Arn.newIt id c red lbd).lost = 0 := by simp [Arn.newIt, Arn.It.lost]
  obtain ⟨o, cp, rfl⟩ := own_slc h.own
  obtain ⟨c0, c1, c2, _⟩ := h.facts
  have hP0 : Pt n ab lim bm (Arn.waste M) W (.slice o (Arn.size M) cp) (Arn.size M) (Arn.row M) W.drew.drew := 
    ⟨h.nab, Arn.row_len h.ok, h.blk, h.own, rfl, h.map.obj, Fr.of_below (Below.refl _ _).drew.drew⟩
  obtain ⟨us, hus⟩ : ∃ us : List Int, [4 * (k : Int) + (if red then 2 else 0), Arn.u32 id, id / 4294967296, lbd * 65536] = us := ⟨_, rfl⟩
  obtain ⟨g1, cap1, B1, hr1, hc1, hf1, hP1⟩ := hP0.push [4 * (k : Int) + (if red then 2 else 0), Arn.u32 id, id / 4294967296, lbd * 65536] 4 rfl (by decide) (by omega)
  have HR1 := hid hr1
  have HDONE := hid (fun (wr : World) (g cc : Nat) (hP : Pt n ab lim bm (Arn.waste M) W (.slice (some ⟨g, 0, none⟩) (Arn.size M + 4 + k) cc) (Arn.size M + 4 + k) (Arn.row M ++ [4 * (k : Int) + (if red then 2 else 0), Arn.u32 id, id / 4294967296, lbd * 65536] ++ c.map Arn.u32) wr) =>
    Pt.done (x := Arn.newIt id c red lbd) h hP hxok (by rw [Arn.row_append, Arn.row, new_cells, hk]; simp [Arn.row]) (by show Arn.size M + (4 + c.length) ≤ lim; omega) hlost)
  have HP1 := hid hP1
  have hh1 : (4 * (k : Int) + (if red then 2 else 0)) ≤ 1073741826 ∧ 0 ≤ (4 * (k : Int) + (if red then 2 else 0)) := by split <;> omega
  have hw1 := wrap_u id
  have hsh : id / 4294967296 ≤ 1073741823 ∧ 0 ≤ id / 4294967296 := by omega
  have hwu : IntKind.u32.wrap (id / 4294967296) = id / 4294967296 := by rw [IntKind.wrap_u32]; omega
  have hsh1 := hsh.1
  have hsh2 := hsh.2
  rw [hus] at HDONE HP1
  obtain ⟨up, hup⟩ : ∃ up, id / 4294967296 = up := ⟨_, rfl⟩
  rw [hup] at hwu hsh1 hsh2 HR1
  obtain ⟨ld, hld⟩ : ∃ ld, lbd * 65536 = ld := ⟨_, rfl⟩
  rw [hld] at HR1 C4
  have hf' : ¬ (lim : Int) - (Arn.size M : Nat) < 4 + k := by omega
  have hSt := hid hst
  have hKc := hid hk
  have hne := hid h.nab
  have d1 := fun o' => (World.cell?_of_block (a := ⟨ab, 1, none⟩) ((below_box W o').block ab (lt_of_blk h.blk))).trans c1
  generalize 4 * (k : Int) + (if red then 2 else 0) = hd at *
  generalize Arn.u32 id = lw at *
  simp only [List.map_cons, List.map_nil] at HR1
  generalize Arn.size M = N at *
  have hN : N ≤ 268435456 := by omega
  clear h he hok hb hz hk hf hP0 hP1 hr1 hxok hlost hst hus hsh hh1
  go_enter Try.func13, Try.ntmps13
  go_wp2_with (first | (go_at_call 38; refine (C.out _).mono ?_; rintro e w4 ⟨rfl, hw4⟩; rw [hw4]; clear hw4) | (go_at_call 39; refine C2.out.mono ?_; rintro e w4 ⟨rfl, hw4⟩; rw [hw4]; clear hw4))
  go_region
  go_wp2
  go_region_law (first
    | (refine step_append_run rfl (.tmp 57) (.tmp 69) 67 67 (by rfl) (by rfl) (by rfl) HR1.out ?_)
    | (go_simp; go_at_call 40; refine (C3.out _).mono ?_; rintro e W7 ⟨rfl, hW7⟩; rw [hW7]; clear hW7)
    | (go_simp; go_at_call 41; refine (C4.out _).mono ?_; rintro e W7 ⟨rfl, hW7⟩; rw [hW7]; clear hW7))
  all_goals
    clear C C2 C3 C4 HR1 hc1 hf1 d1 c1 c0 c2
    generalize B1.setCell ⟨ab, 1, none⟩ (.slice (some ⟨g1, 0, none⟩) (N + 4) cap1) = X1 at *
    go_wp2
    go_loopw [75] (fun i wr => ∃ (j g cc : Nat), j ≤ k ∧ i = .int .i64 j ∧ Hid (Pt n ab lim bm (Arn.waste M) W (.slice (some ⟨g, 0, none⟩) (N + 4 + j) cc) (N + 4 + j) (Arn.row M ++ us ++ (c.take j).map Arn.u32) wr)) (fun i _ => k - (intOf i).toNat)
    case atStart => exact ⟨0, g1, cap1, Nat.zero_le _, rfl, hid (by simpa using HP1.out)⟩
    case round =>
      obtain ⟨j, g, cc, hj, rfl, HP⟩ := hrel
      by_cases hlt : j < k
      · have hlt' : (j : Int) < k := by omega
        obtain ⟨bl, of', ea, _, hcl, _, _⟩ := (hSt.out _ HP.out.fr).at (j := j) (by rw [hKc.out]; exact hlt)
        subst ea
        have e1 := row_cell HP.out.blk 1
        have HT := hid (show (c.take (j + 1)).map Arn.u32 = (c.take j).map Arn.u32 ++ [Arn.u32 (c.getD j 0)] by rw [Arn.take_snoc c j (by rw [hKc.out]; exact hlt)]; simp)
        have hwl := wrap_u (c.getD j 0)
        obtain ⟨g2, cap2, B2, hr2, hc2, hf2, hP2⟩ := HP.out.push [Arn.u32 (c.getD j 0)] 1 rfl (by decide) (by omega)
        have HR2 := hid hr2
        have HP2 := hid hP2
        rw [List.append_assoc (Arn.row M ++ us), ← HT.out] at HP2
        simp only [List.map_cons, List.map_nil] at HR2
        generalize c.getD j 0 = lv at *
        generalize Arn.u32 lv = uv at *
        clear hr2 hP2 HP HP1
        go_wp2_with (at_builtin; refine wpList_append_run rfl (.tmp 83) (.tmp 86) 67 67 rfl rfl rfl HR2.out ?_)
        go_roundw
        case rel => exact ⟨j + 1, g2, cap2, by omega, by go_num, HP2⟩
        case measure => simp [intOf]; omega
      · have hge : ¬ (j : Int) < k := by omega
        obtain rfl : j = k := by omega
        have HP' := HP.out
        rw [show c.take j = c from List.take_of_length_le (by rw [hKc.out]; exact Nat.le_refl _)] at HP'
        have e2 := row_cell HP'.blk 2
        obtain ⟨W9, hr9, hA9, hF9⟩ := HDONE.out _ _ _ HP'
        have HO := hid (HE.out _ _ _ hA9 hF9)
        clear HP' HP hA9 hF9 HP1
        go_wp2
        go_ret2
        exact HO.out
end Go.Proofs.Ytblogmelmpkfhaa
