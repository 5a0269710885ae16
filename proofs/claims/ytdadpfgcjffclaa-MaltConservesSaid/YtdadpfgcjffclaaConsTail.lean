/- What MaltConserves does behind its loop. -/
import Derived.Test.YtdadpfgcjffclaaAwake
import Derived.Test.YtdadpfgcjffclaaTrue
import Derived.Test.YtdadpfgcjffclaaPick
namespace Go.Proofs.Ytdadpfgcjffclaa
open Go.RowKit Go.Sort
attribute [local go_sem] Oper.calm Oper.calmAt Oper.calmUpon

theorem has_true (lo hi n : Int) (w : World) (h : lo ≤ n ∧ n ≤ hi) : Calls Try.prog 28 #[.agg #[.int .i64 lo, .int .i64 hi], .int .i64 n] w fun e w' => e = .returned (.bool true) ∧ Below w.heap.size w w' :=
  (has_any lo hi n w).mono fun e w' ⟨r, he, hr, hb⟩ => by
    obtain rfl : r = true := hr.2 h
    exact ⟨he, hb⟩

def headIs (n : Nat) : Code → Bool
  | .region i _ _ => i == n
  | .seq a _ => headIs n a
  | _ => false
def fromReg (n : Nat) : Code → Option Code
  | .seq a b => if headIs n a then some (.seq a b) else match fromReg n a with
    | some c => some c
    | none => fromReg n b
  | _ => none
/-- the code from region 47 on -/
noncomputable def rest47 : Code := (Try.f6.body.bind (fromReg 47)).getD .skip

set_option maxHeartbeats 16000000 in
set_option maxRecDepth 100000 in
theorem cons_tail (e0 e1 e2 e3 e4 e5 e6 e9 e10 e12 e14 e16 e17 e22 e23 e24 e25 e26 e27 e28 e29 e30 e31 e32 e33 e34 e35 e36 e37 e38 e39 e40 e41 e42 e43 e44 e45 e46 e47 e48 e49 e50 e51 e52 e53 e54 e55 e56 e57 e58 e59 e60 e61 e62 e63 e64 e65 e66 e67 e68 e69 e70 e71 e72 e73 e74 e75 e76 e77 e78 e79 e80 e81 e82 e83 e84 e85 e86 e87 e88 e89 e90 e91 e92 e93 e94 e95 e96 e97 e98 e99 e100 e101 e102 e103 e104 e105 e106 e107 e108 e109 e110 e111 e112 e113 e114 e115 e116 e117 e118 e119 e120 e121 e122 e123 e124 e125 e126 e127 e128 e129 e130 e131 e132 e133 e134 e135 e136 e137 e138 e139 e140 e141 e142 e143 e144 e145 e146 e147 e148 e149 e150 e151 e152 e153 e154 e155 e156 e157 e158 e159 e160 e161 e162 e163 e164 e165 e166 e167 e168 e169 e170 e171 e172 e173 e174 e175 e176 e177 e178 e179 e180 e181 e182 e183 e184 e185 e186 e187 e188 e189 e190 e191 e192 e193 e194 e195 e196 e197 e198 e199 e200 e201 e202 e203 e204 e205 e206 e207 e208 e209 e210 e211 e212 e213 e214 e215 e216 e217 e218 e219 e220 e221 e222 e223 e224 e225 e226 e227 e228 e229 e230 e231 e232 e233 e234 e235 e236 e237 e238 e239 e240 e241 e242 e243 e244 e245 e246 e247 e248 e249 e250 e251 e252 e253 e254 e255 e256 e257 e258 e259 e260 e261 e262 e263 e264 e265 e266 e267 e268 e269 e270 e271 e272 e273 e274 e275 e276 e277 e278 e279 e280 e281 e282 e283 e284 e285 e286 e287 e288 e289 e290 e291 e292 e293 e294 e295 e296 e297 e298 e299 e300 e301 e302 e303 e304 e305 e306 e307 e308 e309 e310 e311 e312 e313 e314 e315 e316 e317 e318 e319 e320 e321 e322 e323 e324 e325 e326 e327 e328 e329 e330 e331 e332 e333 e334 e335 e336 e337 e338 e339 e340 e341 e342 e343 e344 e345 e346 e347 e348 e349 e350 e351 e352 e353 e354 e355 e356 e357 e358 e359 e360 e361 e362 e363 e364 e365 e366 e367 e368 e369 e370 e371 e372 e373 e374 e375 e376 e377 e378 e379 e380 e381 e382 e383 e384 e385 e386 e387 e388 e389 e390 e391 e392 e393 e394 e395 e396 e397 e398 e399 e400 : Value) (g7 : Nat) (dry wat phe tak gas rt stm qd1 qd2 qw1 qw2 qp1 qp2 qt1 qt2 qg1 qg2 qr1 qr2 qs1 qs2 : Int) (w W : World) (hB : Below w.heap.size w W) (b7 : Blk W g7 25 #[.int .i64 qd1, .int .i64 qd2, .int .i64 qw1, .int .i64 qw2, .int .i64 qp1, .int .i64 qp2]) (b8 : Blk W (g7 + 1) 29 #[.int .i64 qt1, .int .i64 qt2, .int .i64 qg1, .int .i64 qg2, .int .i64 qr1, .int .i64 qr2, .int .i64 qs1, .int .i64 qs2])
    (hgo : Hid (Gr.Ok ⟨qd1, qd2, qw1, qw2, qp1, qp2, qt1, qt2, qg1, qg2, qr1, qr2, qs1, qs2⟩)) (hT : Hid (Tr.In ⟨dry, wat, phe, tak, gas, rt, stm⟩ ⟨qd1, qd2, qw1, qw2, qp1, qp2, qt1, qt2, qg1, qg2, qr1, qr2, qs1, qs2⟩)) :
    Code.wp Try.prog rest47 (bodyPost Try.prog Try.f6 fun e w' => e = .returned (.bool true) ∧ Below w.heap.size w w') ⟨#[e0, e1, e2, e3, e4, e5, e6, .pointer (some ⟨g7, 0, none⟩), .pointer (some ⟨g7 + 1, 0, none⟩), e9, e10, .int .i64 dry, e12, .int .i64 wat, e14, .int .i64 phe, e16, e17, .int .i64 tak, .int .i64 gas, .int .i64 rt, .int .i64 stm, e22, e23, e24, e25, e26, e27, e28, e29, e30, e31, e32, e33, e34, e35, e36, e37, e38, e39, e40, e41, e42, e43, e44, e45, e46, e47, e48, e49, e50, e51, e52, e53, e54, e55, e56, e57, e58, e59, e60, e61, e62, e63, e64, e65, e66, e67, e68, e69, e70, e71, e72, e73, e74, e75, e76, e77, e78, e79, e80, e81, e82, e83, e84, e85, e86, e87, e88, e89, e90, e91, e92, e93, e94, e95, e96, e97, e98, e99, e100, e101, e102, e103, e104, e105, e106, e107, e108, e109, e110, e111, e112, e113, e114, e115, e116, e117, e118, e119, e120, e121, e122, e123, e124, e125, e126, e127, e128, e129, e130, e131, e132, e133, e134, e135, e136, e137, e138, e139, e140, e141, e142, e143, e144, e145, e146, e147, e148, e149, e150, e151, e152, e153, e154, e155, e156, e157, e158, e159, e160, e161, e162, e163, e164, e165, e166, e167, e168, e169, e170, e171, e172, e173, e174, e175, e176, e177, e178, e179, e180, e181, e182, e183, e184, e185, e186, e187, e188, e189, e190, e191, e192, e193, e194, e195, e196, e197, e198, e199, e200, e201, e202, e203, e204, e205, e206, e207, e208, e209, e210, e211, e212, e213, e214, e215, e216, e217, e218, e219, e220, e221, e222, e223, e224, e225, e226, e227, e228, e229, e230, e231, e232, e233, e234, e235, e236, e237, e238, e239, e240, e241, e242, e243, e244, e245, e246, e247, e248, e249, e250, e251, e252, e253, e254, e255, e256, e257, e258, e259, e260, e261, e262, e263, e264, e265, e266, e267, e268, e269, e270, e271, e272, e273, e274, e275, e276, e277, e278, e279, e280, e281, e282, e283, e284, e285, e286, e287, e288, e289, e290, e291, e292, e293, e294, e295, e296, e297, e298, e299, e300, e301, e302, e303, e304, e305, e306, e307, e308, e309, e310, e311, e312, e313, e314, e315, e316, e317, e318, e319, e320, e321, e322, e323, e324, e325, e326, e327, e328, e329, e330, e331, e332, e333, e334, e335, e336, e337, e338, e339, e340, e341, e342, e343, e344, e345, e346, e347, e348, e349, e350, e351, e352, e353, e354, e355, e356, e357, e358, e359, e360, e361, e362, e363, e364, e365, e366, e367, e368, e369, e370, e371, e372, e373, e374, e375, e376, e377, e378, e379, e380, e381, e382, e383, e384, e385, e386, e387, e388, e389, e390, e391, e392, e393, e394, e395, e396, e397, e398, e399, e400], []⟩ W := by
  have h7 := Lib.hid awake_any
  conv => arg 2; whnf
  obtain ⟨⟨hd0, hd1, hd2⟩, ⟨hw0, hw1, hw2⟩, ⟨hp0, hp1, hp2⟩, ⟨ht0, ht1, ht2⟩, ⟨hg0, hg1, hg2⟩, ⟨hr0, hr1, hr2⟩, ⟨hs0, hs1, hs2⟩⟩ := hgo.out
  obtain ⟨⟨id0, id1⟩, ⟨iw0, iw1⟩, ⟨ip0, ip1⟩, ⟨it0, it1⟩, ⟨ig0, ig1⟩, ⟨ir0, ir1⟩, ⟨is0, is1⟩⟩ := hT.out
  dsimp only at id0 id1 iw0 iw1 ip0 ip1 it0 it1 ig0 ig1 ir0 ir1 is0 is1 hd0 hd1 hd2 hw0 hw1 hw2 hp0 hp1 hp2 ht0 ht1 ht2 hg0 hg1 hg2 hr0 hr1 hr2 hs0 hs1 hs2
  have rs2 : IntKind.i64.wrap (dry + wat) = dry + wat := IntWalk.i64_in _ (by omega)
  obtain ⟨y0, y1, y2, y3, y4, y5⟩ := b7.facts6
  obtain ⟨z0, z1, z2, z3, z4, z5, z6, z7⟩ := b8.facts8
  clear hgo hT
  go_wp2_with fail
  refine (has_true qt1 qt2 tak _ ⟨by omega, by omega⟩).mono ?_
  rintro e W13 ⟨rfl, hb⟩
  replace b7 := b7.below hb b7.lt
  replace b8 := b8.below hb b8.lt
  replace hB := hB.trans (hb.mono hB.size)
  clear hb y0 y1 y2 y3 y4 y5 z0 z1 z2 z3 z4 z5 z6 z7
  obtain ⟨y0, y1, y2, y3, y4, y5⟩ := b7.facts6
  obtain ⟨z0, z1, z2, z3, z4, z5, z6, z7⟩ := b8.facts8
  go_wp2_with fail
  refine (has_true qg1 qg2 gas _ ⟨by omega, by omega⟩).mono ?_
  rintro e W14 ⟨rfl, hb⟩
  replace b7 := b7.below hb b7.lt
  replace b8 := b8.below hb b8.lt
  replace hB := hB.trans (hb.mono hB.size)
  clear hb y0 y1 y2 y3 y4 y5 z0 z1 z2 z3 z4 z5 z6 z7
  obtain ⟨y0, y1, y2, y3, y4, y5⟩ := b7.facts6
  obtain ⟨z0, z1, z2, z3, z4, z5, z6, z7⟩ := b8.facts8
  go_wp2_with fail
  refine (has_true qr1 qr2 rt _ ⟨by omega, by omega⟩).mono ?_
  rintro e W15 ⟨rfl, hb⟩
  replace b7 := b7.below hb b7.lt
  replace b8 := b8.below hb b8.lt
  replace hB := hB.trans (hb.mono hB.size)
  clear hb y0 y1 y2 y3 y4 y5 z0 z1 z2 z3 z4 z5 z6 z7
  obtain ⟨y0, y1, y2, y3, y4, y5⟩ := b7.facts6
  obtain ⟨z0, z1, z2, z3, z4, z5, z6, z7⟩ := b8.facts8
  go_wp2_with fail
  refine (has_true qs1 qs2 stm _ ⟨by omega, by omega⟩).mono ?_
  rintro e W16 ⟨rfl, hb⟩
  replace b7 := b7.below hb b7.lt
  replace b8 := b8.below hb b8.lt
  replace hB := hB.trans (hb.mono hB.size)
  clear hb y0 y1 y2 y3 y4 y5 z0 z1 z2 z3 z4 z5 z6 z7
  obtain ⟨y0, y1, y2, y3, y4, y5⟩ := b7.facts6
  obtain ⟨z0, z1, z2, z3, z4, z5, z6, z7⟩ := b8.facts8
  have hmo := Lib.hid fun W => Moisture_any qd1 qd2 qw1 qw2 qp1 qp2 W
  have hph := Lib.hid fun W => Phenols_any qd1 qd2 qw1 qw2 qp1 qp2 W
  go_wp2_with fail
  refine (hmo.out _).mono ?_
  rintro e W17 ⟨ma, mb, mk, rfl, hr, hb⟩
  have hrm := Lib.hid fun h0 : mk = 0 => moist_true (by rw [← h0]; exact hr) (show qd1 ≤ dry ∧ dry ≤ qd2 from ⟨by omega, by omega⟩) (show qw1 ≤ wat ∧ wat ≤ qw2 from ⟨by omega, by omega⟩)
  replace b7 := b7.below hb b7.lt
  replace b8 := b8.below hb b8.lt
  replace hB := hB.trans (hb.mono hB.size)
  clear hb y0 y1 y2 y3 y4 y5 z0 z1 z2 z3 z4 z5 z6 z7
  obtain ⟨y0, y1, y2, y3, y4, y5⟩ := b7.facts6
  obtain ⟨z0, z1, z2, z3, z4, z5, z6, z7⟩ := b8.facts8
  clear hmo hr
  go_upto_region 50 with fail
  refine wp_world (fun W => Below w.heap.size w W ∧ Blk W g7 25 #[.int .i64 qd1, .int .i64 qd2, .int .i64 qw1, .int .i64 qw2, .int .i64 qp1, .int .i64 qp2] ∧ Blk W W17.heap.size 23 #[.int .i64 ma, .int .i64 mb]) ⟨hB.alloc hB.size _, b7.alloc _, Blk.new _ _ _⟩ ?_
  clear hB b7 b8 y0 y1 y2 y3 y4 y5 z0 z1 z2 z3 z4 z5 z6 z7
  generalize W17.heap.size = g27 at *
  rintro W18 ⟨hB, b7, b27⟩
  obtain ⟨y0, y1, y2, y3, y4, y5⟩ := b7.facts6
  obtain ⟨u0, u1, _, _⟩ := b27.facts2
  have hways : ((mk == 0) = false) ∨ ((mk == 0) = true ∧ decide (0 < dry + wat) = false) ∨ ((mk == 0) = true ∧ decide (0 < dry + wat) = true) := by
    cases (mk == 0) <;> cases decide (0 < dry + wat) <;> simp
  rcases hways with o1 | ⟨o1, o2⟩ | ⟨o1, o2⟩
  · clear hrm
    go_wp2_with fail
    refine (hph.out _).mono ?_
    rintro e W19 ⟨na, nb, nk, rfl, hr, hb⟩
    have hrp := Lib.hid fun h0 : nk = 0 => phen_true (by rw [← h0]; exact hr) (show qd1 ≤ dry ∧ dry ≤ qd2 from ⟨by omega, by omega⟩) (show qp1 ≤ phe ∧ phe ≤ qp2 from ⟨by omega, by omega⟩)
    replace hB := hB.trans (hb.mono hB.size)
    clear hb y0 y1 y2 y3 y4 y5 u0 u1 b7 b27 hph hr
    go_upto_region 54 with fail
    refine wp_world (fun W => Below w.heap.size w W ∧ Blk W W19.heap.size 23 #[.int .i64 na, .int .i64 nb]) ⟨hB.alloc hB.size _, Blk.new _ _ _⟩ ?_
    clear hB
    generalize W19.heap.size = g29 at *
    rintro W20 ⟨hB, b29⟩
    by_cases hn0 : nk = 0
    · obtain ⟨dpos, ha, hb2⟩ := hrp.out hn0
      have o3 : (nk == 0) = true := by simpa using hn0
      have dne : ¬ dry = 0 := by omega
      have c3 : decide (dry ≤ 0) = false := by simp; omega
      have v1 : (1000 * phe).tdiv dry = 1000 * phe / dry := Int.tdiv_eq_ediv_of_nonneg (by omega)
      have v2 : (1000 * phe + dry - 1).tdiv dry = (1000 * phe + dry - 1) / dry := Int.tdiv_eq_ediv_of_nonneg (by omega)
      have v3 : 1000 * phe / dry ≤ 1000 * phe := Int.ediv_le_self _ (by omega)
      have v4 : (1000 * phe + dry - 1) / dry ≤ 1000 * phe + dry - 1 := Int.ediv_le_self _ (by omega)
      have v5 : 0 ≤ 1000 * phe / dry := Int.ediv_nonneg (by omega) (by omega)
      have v6 : 0 ≤ (1000 * phe + dry - 1) / dry := Int.ediv_nonneg (by omega) (by omega)
      generalize 1000 * phe / dry = pq at *
      generalize (1000 * phe + dry - 1) / dry = pr at *
      have c4 : decide (pq < na) = false := by simpa using ha
      have c5 : decide (nb < pr) = false := by simpa using hb2
      have w1 : IntKind.i64.wrap (1000 * phe) = 1000 * phe := IntWalk.i64_in _ (by omega)
      have w2 : IntKind.i64.wrap (1000 * phe + dry) = 1000 * phe + dry := IntWalk.i64_in _ (by omega)
      have w3 : IntKind.i64.wrap (1000 * phe + dry - 1) = 1000 * phe + dry - 1 := IntWalk.i64_in _ (by omega)
      have w4 : IntKind.i64.wrap pq = pq := IntWalk.i64_in _ (by omega)
      have w5 : IntKind.i64.wrap pr = pr := IntWalk.i64_in _ (by omega)
      clear hrp hn0 ha hb2
      obtain ⟨u0, u1, _, _⟩ := b29.facts2
      have u0' := fun d os => cell_regrown u0 d os
      have u1' := fun d os => cell_regrown u1 d os
      go_upto_region 55 with fail
      refine wp_region_quiet_below (by kernel_rfl) (by kernel_rfl) ?_
      repeat (quiet_step (fail))
      refine wpQuiet_nil ?_
      intro _ hw'
      obtain ⟨⟨dq, osq⟩, hw''⟩ := hw'
      subst hw''
      have hb := below_regrown W20 dq osq
      replace hB := hB.trans (hb.mono hB.size)
      clear hb u0 u1 u0' u1' b29
      generalize grow (redrawn W20 dq) osq = W50 at *
      go_wp2_with fail
      refine (h7.out _).mono ?_
      rintro e W99 ⟨rfl, hb⟩
      go_wp2_with fail
      go_ret
      exact ⟨rfl, hB.trans (hb.mono hB.size)⟩
    · have o3 : (nk == 0) = false := by simpa using hn0
      clear hrp hn0
      go_wp2_with fail
      refine (h7.out _).mono ?_
      rintro e W99 ⟨rfl, hb⟩
      go_wp2_with fail
      go_ret
      exact ⟨rfl, hB.trans (hb.mono hB.size)⟩
  · clear hrm
    go_wp2_with fail
    refine (hph.out _).mono ?_
    rintro e W19 ⟨na, nb, nk, rfl, hr, hb⟩
    have hrp := Lib.hid fun h0 : nk = 0 => phen_true (by rw [← h0]; exact hr) (show qd1 ≤ dry ∧ dry ≤ qd2 from ⟨by omega, by omega⟩) (show qp1 ≤ phe ∧ phe ≤ qp2 from ⟨by omega, by omega⟩)
    replace hB := hB.trans (hb.mono hB.size)
    clear hb y0 y1 y2 y3 y4 y5 u0 u1 b7 b27 hph hr
    go_upto_region 54 with fail
    refine wp_world (fun W => Below w.heap.size w W ∧ Blk W W19.heap.size 23 #[.int .i64 na, .int .i64 nb]) ⟨hB.alloc hB.size _, Blk.new _ _ _⟩ ?_
    clear hB
    generalize W19.heap.size = g29 at *
    rintro W20 ⟨hB, b29⟩
    by_cases hn0 : nk = 0
    · obtain ⟨dpos, ha, hb2⟩ := hrp.out hn0
      have o3 : (nk == 0) = true := by simpa using hn0
      have dne : ¬ dry = 0 := by omega
      have c3 : decide (dry ≤ 0) = false := by simp; omega
      have v1 : (1000 * phe).tdiv dry = 1000 * phe / dry := Int.tdiv_eq_ediv_of_nonneg (by omega)
      have v2 : (1000 * phe + dry - 1).tdiv dry = (1000 * phe + dry - 1) / dry := Int.tdiv_eq_ediv_of_nonneg (by omega)
      have v3 : 1000 * phe / dry ≤ 1000 * phe := Int.ediv_le_self _ (by omega)
      have v4 : (1000 * phe + dry - 1) / dry ≤ 1000 * phe + dry - 1 := Int.ediv_le_self _ (by omega)
      have v5 : 0 ≤ 1000 * phe / dry := Int.ediv_nonneg (by omega) (by omega)
      have v6 : 0 ≤ (1000 * phe + dry - 1) / dry := Int.ediv_nonneg (by omega) (by omega)
      generalize 1000 * phe / dry = pq at *
      generalize (1000 * phe + dry - 1) / dry = pr at *
      have c4 : decide (pq < na) = false := by simpa using ha
      have c5 : decide (nb < pr) = false := by simpa using hb2
      have w1 : IntKind.i64.wrap (1000 * phe) = 1000 * phe := IntWalk.i64_in _ (by omega)
      have w2 : IntKind.i64.wrap (1000 * phe + dry) = 1000 * phe + dry := IntWalk.i64_in _ (by omega)
      have w3 : IntKind.i64.wrap (1000 * phe + dry - 1) = 1000 * phe + dry - 1 := IntWalk.i64_in _ (by omega)
      have w4 : IntKind.i64.wrap pq = pq := IntWalk.i64_in _ (by omega)
      have w5 : IntKind.i64.wrap pr = pr := IntWalk.i64_in _ (by omega)
      clear hrp hn0 ha hb2
      obtain ⟨u0, u1, _, _⟩ := b29.facts2
      have u0' := fun d os => cell_regrown u0 d os
      have u1' := fun d os => cell_regrown u1 d os
      go_upto_region 55 with fail
      refine wp_region_quiet_below (by kernel_rfl) (by kernel_rfl) ?_
      repeat (quiet_step (fail))
      refine wpQuiet_nil ?_
      intro _ hw'
      obtain ⟨⟨dq, osq⟩, hw''⟩ := hw'
      subst hw''
      have hb := below_regrown W20 dq osq
      replace hB := hB.trans (hb.mono hB.size)
      clear hb u0 u1 u0' u1' b29
      generalize grow (redrawn W20 dq) osq = W50 at *
      go_wp2_with fail
      refine (h7.out _).mono ?_
      rintro e W99 ⟨rfl, hb⟩
      go_wp2_with fail
      go_ret
      exact ⟨rfl, hB.trans (hb.mono hB.size)⟩
    · have o3 : (nk == 0) = false := by simpa using hn0
      clear hrp hn0
      go_wp2_with fail
      refine (h7.out _).mono ?_
      rintro e W99 ⟨rfl, hb⟩
      go_wp2_with fail
      go_ret
      exact ⟨rfl, hB.trans (hb.mono hB.size)⟩
  · obtain ⟨⟨hma, hmb⟩, ⟨ma0, ma1⟩, ⟨mb0, mb1⟩⟩ := hrm.out (by simpa using o1)
    have hprod1 := prod_bd ma0 ma1 (show 0 ≤ dry + wat by omega) (show dry + wat ≤ 2199023255552 by omega)
    have hprod2 := prod_bd mb0 mb1 (show 0 ≤ dry + wat by omega) (show dry + wat ≤ 2199023255552 by omega)
    have w1 : IntKind.i64.wrap (10000 * wat) = 10000 * wat := IntWalk.i64_in _ (by omega)
    have w2 : IntKind.i64.wrap (ma * (dry + wat)) = ma * (dry + wat) := IntWalk.i64_in _ (by omega)
    have w3 : IntKind.i64.wrap (mb * (dry + wat)) = mb * (dry + wat) := IntWalk.i64_in _ (by omega)
    have c1 : decide (10000 * wat < ma * (dry + wat)) = false := by simpa using hma
    have c2 : decide (mb * (dry + wat) < 10000 * wat) = false := by simpa using hmb
    clear hrm hma hmb hprod1 hprod2
    go_wp2_with fail
    refine (hph.out _).mono ?_
    rintro e W19 ⟨na, nb, nk, rfl, hr, hb⟩
    have hrp := Lib.hid fun h0 : nk = 0 => phen_true (by rw [← h0]; exact hr) (show qd1 ≤ dry ∧ dry ≤ qd2 from ⟨by omega, by omega⟩) (show qp1 ≤ phe ∧ phe ≤ qp2 from ⟨by omega, by omega⟩)
    replace hB := hB.trans (hb.mono hB.size)
    clear hb y0 y1 y2 y3 y4 y5 u0 u1 b7 b27 hph hr
    go_upto_region 54 with fail
    refine wp_world (fun W => Below w.heap.size w W ∧ Blk W W19.heap.size 23 #[.int .i64 na, .int .i64 nb]) ⟨hB.alloc hB.size _, Blk.new _ _ _⟩ ?_
    clear hB
    generalize W19.heap.size = g29 at *
    rintro W20 ⟨hB, b29⟩
    by_cases hn0 : nk = 0
    · obtain ⟨dpos, ha, hb2⟩ := hrp.out hn0
      have o3 : (nk == 0) = true := by simpa using hn0
      have dne : ¬ dry = 0 := by omega
      have c3 : decide (dry ≤ 0) = false := by simp; omega
      have v1 : (1000 * phe).tdiv dry = 1000 * phe / dry := Int.tdiv_eq_ediv_of_nonneg (by omega)
      have v2 : (1000 * phe + dry - 1).tdiv dry = (1000 * phe + dry - 1) / dry := Int.tdiv_eq_ediv_of_nonneg (by omega)
      have v3 : 1000 * phe / dry ≤ 1000 * phe := Int.ediv_le_self _ (by omega)
      have v4 : (1000 * phe + dry - 1) / dry ≤ 1000 * phe + dry - 1 := Int.ediv_le_self _ (by omega)
      have v5 : 0 ≤ 1000 * phe / dry := Int.ediv_nonneg (by omega) (by omega)
      have v6 : 0 ≤ (1000 * phe + dry - 1) / dry := Int.ediv_nonneg (by omega) (by omega)
      generalize 1000 * phe / dry = pq at *
      generalize (1000 * phe + dry - 1) / dry = pr at *
      have c4 : decide (pq < na) = false := by simpa using ha
      have c5 : decide (nb < pr) = false := by simpa using hb2
      have w1 : IntKind.i64.wrap (1000 * phe) = 1000 * phe := IntWalk.i64_in _ (by omega)
      have w2 : IntKind.i64.wrap (1000 * phe + dry) = 1000 * phe + dry := IntWalk.i64_in _ (by omega)
      have w3 : IntKind.i64.wrap (1000 * phe + dry - 1) = 1000 * phe + dry - 1 := IntWalk.i64_in _ (by omega)
      have w4 : IntKind.i64.wrap pq = pq := IntWalk.i64_in _ (by omega)
      have w5 : IntKind.i64.wrap pr = pr := IntWalk.i64_in _ (by omega)
      clear hrp hn0 ha hb2
      obtain ⟨u0, u1, _, _⟩ := b29.facts2
      have u0' := fun d os => cell_regrown u0 d os
      have u1' := fun d os => cell_regrown u1 d os
      go_upto_region 55 with fail
      refine wp_region_quiet_below (by kernel_rfl) (by kernel_rfl) ?_
      repeat (quiet_step (fail))
      refine wpQuiet_nil ?_
      intro _ hw'
      obtain ⟨⟨dq, osq⟩, hw''⟩ := hw'
      subst hw''
      have hb := below_regrown W20 dq osq
      replace hB := hB.trans (hb.mono hB.size)
      clear hb u0 u1 u0' u1' b29
      generalize grow (redrawn W20 dq) osq = W50 at *
      go_wp2_with fail
      refine (h7.out _).mono ?_
      rintro e W99 ⟨rfl, hb⟩
      go_wp2_with fail
      go_ret
      exact ⟨rfl, hB.trans (hb.mono hB.size)⟩
    · have o3 : (nk == 0) = false := by simpa using hn0
      clear hrp hn0
      go_wp2_with fail
      refine (h7.out _).mono ?_
      rintro e W99 ⟨rfl, hb⟩
      go_wp2_with fail
      go_ret
      exact ⟨rfl, hB.trans (hb.mono hB.size)⟩
end Go.Proofs.Ytdadpfgcjffclaa
